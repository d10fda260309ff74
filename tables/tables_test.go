package tables_test

import (
	"reflect"
	"testing"

	"daybook/api"
	"daybook/payload"
	"daybook/tables"
)

func num(n int) api.Value { return api.Value{Type: api.Int, N: n} }

func create(name string) payload.Op {
	return payload.Op{Kind: payload.Create, Table: name, Columns: []api.Column{{Name: "k", Type: api.Int}, {Name: "n", Type: api.Int}}}
}

func op(kind payload.Kind, name string, row ...int) payload.Op {
	o := payload.Op{Kind: kind, Table: name}
	for _, n := range row {
		o.Row = append(o.Row, num(n))
	}
	return o
}

// do does ops that must be right, all of one transaction.
func do(t *testing.T, to tables.Tables, number int, ops ...payload.Op) {
	t.Helper()
	for _, o := range ops {
		if err := to.Check(o); err != nil {
			t.Fatalf("op %d of table %s: %v", o.Kind, o.Table, err)
		}
		to.Do(o, number)
	}
}

func wants(t *testing.T, err error, kind api.Kind, table string) {
	t.Helper()
	if k, name := api.Told(err); k != kind || name != table {
		t.Errorf("%v, want %v of %q", err, kind, table)
	}
}

func TestCheck(t *testing.T) {
	x := tables.Tables{}
	do(t, x, 1, create("t"), create("u"), create("v"), create("w"), op(payload.Insert, "t", 1, 10))
	wants(t, x.Check(create("")), api.ErrName, "")
	wants(t, x.Check(create("T")), api.ErrName, "T")
	wants(t, x.Check(create("w")), api.ErrTwice, "w")
	wants(t, x.Check(create("x")), api.ErrMany, "")
	delete(x, "w")
	wants(t, x.Check(payload.Op{Kind: payload.Create, Table: "x"}), api.ErrColumns, "x")
	for _, kind := range []payload.Kind{payload.Insert, payload.Update, payload.Delete} {
		wants(t, x.Check(op(kind, "w")), api.ErrTable, "w")
		wants(t, x.Check(op(kind, "t")), api.ErrRow, "t")
		wants(t, x.Check(op(kind, "t", 1, 2, 3)), api.ErrRow, "t")
	}
	wants(t, x.Check(op(payload.Insert, "t", 1)), api.ErrRow, "t")
	wants(t, x.Check(op(payload.Delete, "t", 1, 10)), api.ErrRow, "t")
	wants(t, x.Check(op(payload.Insert, "t", 1, 11)), api.ErrTwice, "t")
	wants(t, x.Check(op(payload.Update, "t", 2, 11)), api.ErrNone, "t")
	wants(t, x.Check(op(payload.Delete, "t", 2)), api.ErrNone, "t")
}

// A copy and what it was copied from know nothing of each other's changes.
func TestCopy(t *testing.T) {
	x := tables.Tables{}
	do(t, x, 1, create("t"), op(payload.Insert, "t", 1, 10), op(payload.Insert, "t", 2, 20), op(payload.Update, "t", 1, 11), op(payload.Update, "t", 1, 12), op(payload.Update, "t", 1, 13))
	one, two := x.Copy(), x.Copy()
	do(t, one, 2, create("u"), op(payload.Delete, "t", 1), op(payload.Insert, "t", 3, 30))
	do(t, two, 2, op(payload.Update, "t", 2, 22), op(payload.Delete, "t", 2))
	do(t, x, 2, op(payload.Delete, "t", 2))
	for _, c := range []struct {
		of   tables.Tables
		rows [][]api.Value
		past []int // the second values of the rows that are no more
	}{
		{x, [][]api.Value{{num(1), num(13)}}, []int{10, 11, 12, 20}},
		{one, [][]api.Value{{num(2), num(20)}, {num(3), num(30)}}, []int{10, 11, 12, 13}},
		{two, [][]api.Value{{num(1), num(13)}}, []int{10, 11, 12, 20, 22}},
	} {
		if got, err := c.of.Scan("t"); err != nil || !reflect.DeepEqual(got, c.rows) {
			t.Errorf("Scan = %v, %v, want %v", got, err, c.rows)
		}
		var past []int
		all, _ := c.of.History("t", 2)
		for _, v := range all {
			past = append(past, v.Row[1].N)
		}
		if !reflect.DeepEqual(past, c.past) {
			t.Errorf("History tells %v, want %v", past, c.past)
		}
	}
	if _, err := x.Scan("u"); err == nil {
		t.Error("a table of a copy is seen")
	}
}

// History tells what the transactions up to a number put an end to.
func TestHistoryUpTo(t *testing.T) {
	x := tables.Tables{}
	do(t, x, 1, create("t"), op(payload.Insert, "t", 1, 10))
	do(t, x, 2, op(payload.Update, "t", 1, 11), op(payload.Update, "t", 1, 12))
	do(t, x, 3, op(payload.Delete, "t", 1))
	for number, many := range []int{0, 0, 2, 3, 3} {
		if l, err := x.History("t", number); err != nil || len(l) != many {
			t.Errorf("History up to %d = %v, %v, want %d", number, l, err, many)
		}
	}
	all, _ := x.History("t", 3)
	want := []api.Version{{Row: []api.Value{num(1), num(10)}, From: 1, To: 2}, {Row: []api.Value{num(1), num(11)}, From: 2, To: 2}, {Row: []api.Value{num(1), num(12)}, From: 2, To: 3}}
	if !reflect.DeepEqual(all, want) {
		t.Errorf("History = %v, want %v", all, want)
	}
}

// Same tells of each thing in which two can differ, seen now or later.
func TestSame(t *testing.T) {
	make := func() tables.Tables {
		x := tables.Tables{}
		do(t, x, 1, create("t"), op(payload.Insert, "t", 1, 10), op(payload.Insert, "t", 2, 20))
		do(t, x, 2, op(payload.Update, "t", 1, 11))
		return x
	}
	other := func(numbers [4]int, ops ...payload.Op) tables.Tables {
		x := tables.Tables{}
		for i, o := range ops {
			do(t, x, numbers[i], o)
		}
		return x
	}
	one := [4]int{1, 1, 1, 2}
	columns := payload.Op{Kind: payload.Create, Table: "t", Columns: []api.Column{{Name: "k", Type: api.Int}, {Name: "m", Type: api.Int}}}
	if x := make(); !x.Same(make()) || !make().Same(x) || !x.Same(x.Copy()) || !(tables.Tables{}).Same(tables.Tables{}) {
		t.Error("the same are not the same")
	}
	for what, x := range map[string]tables.Tables{
		"nothing":                  {},
		"a table of another name":  other(one, create("u"), op(payload.Insert, "u", 1, 10), op(payload.Insert, "u", 2, 20), op(payload.Update, "u", 1, 11)),
		"another column":           other(one, columns, op(payload.Insert, "t", 1, 10), op(payload.Insert, "t", 2, 20), op(payload.Update, "t", 1, 11)),
		"another value":            other(one, create("t"), op(payload.Insert, "t", 1, 10), op(payload.Insert, "t", 2, 21), op(payload.Update, "t", 1, 11)),
		"another key":              other(one, create("t"), op(payload.Insert, "t", 1, 10), op(payload.Insert, "t", 3, 20), op(payload.Update, "t", 1, 11)),
		"a row less":               other([4]int{1, 1, 2}, create("t"), op(payload.Insert, "t", 1, 10), op(payload.Update, "t", 1, 11)),
		"a row that is no more":    other(one, create("t"), op(payload.Insert, "t", 1, 10), op(payload.Insert, "t", 2, 20)),
		"another row of the past":  other(one, create("t"), op(payload.Insert, "t", 1, 12), op(payload.Insert, "t", 2, 20), op(payload.Update, "t", 1, 11)),
		"a row made later":         other([4]int{1, 1, 2, 2}, create("t"), op(payload.Insert, "t", 1, 10), op(payload.Insert, "t", 2, 20), op(payload.Update, "t", 1, 11)),
		"a past row made later":    other([4]int{1, 2, 1, 2}, create("t"), op(payload.Insert, "t", 1, 10), op(payload.Insert, "t", 2, 20), op(payload.Update, "t", 1, 11)),
		"a past row ended earlier": other([4]int{1, 1, 1, 1}, create("t"), op(payload.Insert, "t", 1, 10), op(payload.Insert, "t", 2, 20), op(payload.Update, "t", 1, 11)),
	} {
		if x.Same(make()) || make().Same(x) {
			t.Errorf("others with %s are taken for the same", what)
		}
	}
	more := make()
	do(t, more, 3, create("u"))
	if more.Same(make()) || make().Same(more) {
		t.Error("one table more is taken for the same")
	}
}
