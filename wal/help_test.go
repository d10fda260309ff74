package wal_test

import (
	"slices"
	"strings"
	"testing"

	"daybook/disk"
	"daybook/numbers"
	"daybook/sums"
	"daybook/wal"
)

// opened opens a log that must be there.
func opened(t *testing.T, d *disk.Disk, first, sectors int) *wal.Log {
	t.Helper()
	l, err := wal.Open(d, first, sectors)
	if err != nil || l == nil {
		t.Fatalf("P6: Open(%d, %d) = %v, %v", first, sectors, l, err)
	}
	return l
}

// fresh is a new log on a disk of its own that it fills.
func fresh(t *testing.T, sectors int) (*disk.Disk, *wal.Log) {
	t.Helper()
	d := disk.New(sectors)
	if err := wal.Create(d, 0, sectors); err != nil {
		t.Fatalf("P5: Create(0, %d): %v", sectors, err)
	}
	return d, opened(t, d, 0, sectors)
}

// done fails the test if a call that must be answered without an error was not.
func done(t *testing.T, what string, err error) {
	t.Helper()
	if err != nil {
		t.Fatalf("%s: %v", what, err)
	}
}

func put(t *testing.T, l *wal.Log, payloads ...string) {
	t.Helper()
	for _, p := range payloads {
		if err := l.Append([]byte(p)); err != nil {
			t.Fatalf("P7: Append of %d bytes: %v", len(p), err)
		}
	}
}

// fillUp appends one payload again and again, as long as there is room.
func fillUp(l *wal.Log, payload string) {
	for range disk.Most {
		if l.Append([]byte(payload)) != nil {
			return
		}
	}
}

func texts(l *wal.Log) []string {
	var list []string
	for _, p := range l.All() {
		list = append(list, string(p))
	}
	return list
}

// short is a list in which each text is told by its beginning and length.
func short(list []string) string {
	var b strings.Builder
	for _, s := range list {
		b.WriteString(" " + s[:min(8, len(s))] + strings.Repeat(".", min(3, len(s)/8)))
	}
	return "[" + b.String() + " ]"
}

func has(t *testing.T, l *wal.Log, want ...string) {
	t.Helper()
	if got := texts(l); !slices.Equal(got, want) {
		t.Errorf("P7: All is %s, want %s", short(got), short(want))
	}
}

// filled is a payload of so many bytes that tells its name.
func filled(name string, size int) string {
	return strings.Repeat(name, size/len(name)+1)[:size]
}

// ways are all that a crash can do to so many sectors, or some of it, if that is too much.
func ways(sectors int) [][]int {
	if sectors > 6 {
		return someWays(sectors)
	}
	list := [][]int{{}}
	for range sectors {
		var longer [][]int
		for _, raw := range list {
			for c := range 3 {
				longer = append(longer, append(slices.Clone(raw), c))
			}
		}
		list = longer
	}
	return list
}

// someWays leave all sectors but one alike.
func someWays(sectors int) [][]int {
	var list [][]int
	for most := range 3 {
		for c := range 3 {
			for other := range sectors {
				raw := slices.Repeat([]int{most}, sectors)
				raw[other] = c
				list = append(list, raw)
			}
		}
	}
	return list
}

// stood is the text of a sector that tells an epoch and where it stands: a head, if there is no payload, else one of at most 200 bytes.
func stood(epoch uint64, first, sectors, at int, payload string) string {
	b := numbers.Append([]byte("log"), epoch, 8)
	for _, n := range []int{first, sectors, at} {
		b = numbers.Append(b, uint64(n), 4)
	}
	b = numbers.Append(b, uint64(len(payload)), 2)
	b = append(append(b, 0), payload...)
	b = append(b, make([]byte, 226-len(b))...)
	return string(numbers.Append(b, uint64(sums.Check(b)), 4))
}
