package store

import (
	"bytes"
	"slices"
	"strings"

	"daybook/api"
	"daybook/numbers"
	"daybook/wal"
)

const (
	numberSize = 4
	keySize    = numberSize + 1
	partSize   = api.MaxValue
)

// entry is a payload and its number.
type entry struct {
	number int
	text   string
}

// bytes is what the log has of an entry.
func (e entry) bytes() []byte { return append(prefixOf(e.number), e.text...) }

// entriesOf is what a log has. What is too short for an entry has the number 0, which none has.
func entriesOf(l *wal.Log) []entry {
	var all []entry
	for _, b := range l.All() {
		r := &numbers.Reader{Rest: string(b)}
		all = append(all, entry{r.Number(numberSize), r.Rest})
	}
	return all
}

// pairs is what the tree has of an entry: its parts, in order.
func (e entry) pairs() []api.Pair {
	var all []api.Pair
	for part := range partsOf(len(e.text)) {
		from := part * partSize
		value := e.text[from:min(from+partSize, len(e.text))]
		all = append(all, api.Pair{Key: keyOf(e.number, part), Value: []byte(value)})
	}
	return all
}

func prefixOf(number int) []byte { return numbers.Append(nil, uint64(number), numberSize) }

func keyOf(number, part int) []byte { return append(prefixOf(number), byte(part)) }

func partsOf(length int) int { return (length + partSize - 1) / partSize }

// takes is what the pairs of a payload of so many bytes take, as P12 counts it.
func takes(length int) int { return length + partsOf(length)*(keySize+8) }

// join is the entry with a number, if that is what these pairs begin with; false: they do not.
func join(number int, pairs []api.Pair) (entry, bool) {
	var text strings.Builder
	many := 0
	for many < len(pairs) && bytes.HasPrefix(pairs[many].Key, prefixOf(number)) {
		text.Write(pairs[many].Value)
		many++
	}
	e := entry{number, text.String()}
	return e, many > 0 && slices.EqualFunc(e.pairs(), pairs[:many], same)
}

func same(x, y api.Pair) bool { return bytes.Equal(x.Key, y.Key) && bytes.Equal(x.Value, y.Value) }

// joinAll is the payloads that all pairs of a tree make; false: they make something else.
func joinAll(pairs []api.Pair) ([]string, bool) {
	var all []string
	for len(pairs) > 0 {
		e, ok := join(len(all)+1, pairs)
		if !ok {
			return nil, false
		}
		all = append(all, e.text)
		pairs = pairs[partsOf(len(e.text)):]
	}
	return all, true
}
