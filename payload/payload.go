// Package payload: the form in which transactions are laid down: see DOC.md.
package payload

import (
	"strings"

	"daybook/api"
	"daybook/numbers"
	"daybook/sums"
)

// Kind is what an op does.
type Kind int

// The kinds.
const (
	Create Kind = 1
	Insert Kind = 2
	Update Kind = 3
	Delete Kind = 4
)

const (
	timeSize  = 8
	checkSize = 4
	around    = timeSize + 1 + checkSize // bytes of a payload beside its ops

	greatestName  = 1 + api.MaxName
	greatestValue = 2 + api.MaxText
	greatestOp    = 1 + greatestName + 1 + api.MaxColumns*greatestValue

	// Greatest is how many bytes a payload has at most.
	Greatest = around + api.MaxOps*greatestOp
)

// Op is one of a transaction. A Create has columns; an Insert and an Update have a row; a Delete has a row of the key alone.
type Op struct {
	Kind    Kind
	Table   string
	Columns []api.Column
	Row     []api.Value
}

// Transaction is what a payload tells.
type Transaction struct {
	Time int
	Ops  []Op
}

// Text is how an op stands in a payload.
func (o Op) Text() string {
	b := numbers.AppendText([]byte{byte(o.Kind)}, o.Table)
	switch o.Kind {
	case Create:
		b = append(b, byte(len(o.Columns)))
		for _, c := range o.Columns {
			b = append(numbers.AppendText(b, c.Name), byte(c.Type))
		}
	case Delete:
		b = appendValues(b, o.Row)
	default:
		b = appendValues(append(b, byte(len(o.Row))), o.Row)
	}
	return string(b)
}

func appendValues(b []byte, row []api.Value) []byte {
	for _, v := range row {
		b = append(b, byte(v.Type))
		if v.Type == api.Int {
			b = numbers.Append(b, uint64(v.N), 8)
		} else {
			b = numbers.AppendText(b, v.S)
		}
	}
	return b
}

// Text is the payload of a transaction, by its ops as they stand in it.
func Text(time int, ops []string) string {
	b := numbers.Append(nil, uint64(time), timeSize)
	b = append(b, byte(len(ops)))
	b = append(b, strings.Join(ops, "")...)
	return string(numbers.Append(b, uint64(sums.Check(b)), checkSize))
}

// Length is how many bytes a payload has whose ops have so many together.
func Length(ops int) int { return around + ops }

// Parse takes a payload apart; false: a text is none.
func Parse(text string) (Transaction, bool) {
	r := &numbers.Reader{Rest: text}
	t := Transaction{Time: r.Number(timeSize)}
	many := r.Number(1)
	if many < 1 || many > api.MaxOps {
		return Transaction{}, false
	}
	for range many {
		t.Ops = append(t.Ops, readOp(r))
	}
	summed := text[:len(text)-len(r.Rest)]
	if check := r.Number(checkSize); r.Wrong || r.Rest != "" || check != int(sums.Check([]byte(summed))) {
		return Transaction{}, false
	}
	return t, true
}

func readOp(r *numbers.Reader) Op {
	o := Op{Kind: Kind(r.Number(1)), Table: readName(r)}
	switch o.Kind {
	case Create:
		o.Columns = readColumns(r)
	case Insert, Update:
		o.Row = readRow(r)
	case Delete:
		o.Row = []api.Value{readValue(r)}
	default:
		r.Wrong = true
	}
	return o
}

func readName(r *numbers.Reader) string {
	name := r.Text(1, api.MaxName)
	r.Wrong = r.Wrong || !IsName(name)
	return name
}

func readColumns(r *numbers.Reader) []api.Column {
	columns := make([]api.Column, r.Number(1))
	for i := range columns {
		columns[i] = api.Column{Name: readName(r), Type: api.Type(r.Number(1))}
	}
	r.Wrong = r.Wrong || !AreRight(columns)
	return columns
}

func readRow(r *numbers.Reader) []api.Value {
	row := make([]api.Value, r.Number(1))
	r.Wrong = r.Wrong || len(row) < 1 || len(row) > api.MaxColumns
	for i := range row {
		row[i] = readValue(r)
	}
	return row
}

func readValue(r *numbers.Reader) api.Value {
	v := api.Value{Type: api.Type(r.Number(1))}
	switch v.Type {
	case api.Int:
		v.N = r.Number(8)
	case api.Text:
		v.S = r.Text(0, api.MaxText)
	default:
		r.Wrong = true
	}
	return v
}
