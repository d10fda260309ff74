package daybook_test

import (
	"slices"
	"testing"

	"daybook/api"
	"daybook/daybook"
)

// shows: a table has these rows, as Scan and Get tell it.
func shows(t *testing.T, what string, b *daybook.DB, table string, want ...[]api.Value) {
	t.Helper()
	got, err := b.Scan(table)
	if err != nil || !slices.EqualFunc(got, want, slices.Equal) {
		t.Errorf("P16: %s: Scan(%s) = %v, %v, want %v", what, table, got, err, want)
	}
	for _, r := range want {
		if got, err := b.Get(table, r[0]); err != nil || !slices.Equal(got, r) {
			t.Errorf("P16: %s: Get(%s, %v) = %v, %v", what, table, r[0], got, err)
		}
	}
}

// lacks: a table has no row with this key.
func lacks(t *testing.T, what string, b *daybook.DB, table string, key api.Value) {
	t.Helper()
	r, err := b.Get(table, key)
	wants(t, "P16: "+what+": Get", err, api.ErrNone, table)
	if r != nil {
		t.Errorf("P1: %s: a row beside ErrNone", what)
	}
}

// What the open transaction did is seen, one thing behind the other; and when it is aborted, nothing of it.
func TestOpenTransactionIsSeen(t *testing.T) {
	d, b := made(t, 2000, short()...)
	two := [][]api.Value{row(num(-6), txt("sixteen letters!")), row(num(5), txt("again"))}
	for range 2 {
		shows(t, "no transaction", b, "t", two...)
		fine(t, "P14: Begin", b.Begin(1))
		shows(t, "Begin", b, "t", two...)
		_, err := b.Scan("v")
		wants(t, "P16: Scan of no table", err, api.ErrTable, "v")
		fine(t, "P14: Create", b.Create("v", []api.Column{{Name: "k", Type: api.Text}, {Name: "n", Type: api.Int}}))
		shows(t, "Create", b, "v")
		lacks(t, "Create", b, "v", txt("a"))
		fine(t, "P15: Insert", b.Insert("v", row(txt("a"), num(1))))
		shows(t, "Insert", b, "v", row(txt("a"), num(1)))
		fine(t, "P15: Update", b.Update("v", row(txt("a"), num(2))))
		shows(t, "Update", b, "v", row(txt("a"), num(2)))
		fine(t, "P15: Delete", b.Delete("v", txt("a")))
		shows(t, "Delete", b, "v")
		wants(t, "P15: Delete twice", b.Delete("v", txt("a")), api.ErrNone, "v")
		fine(t, "P15: Insert", b.Insert("v", row(txt("a"), num(3))))
		wants(t, "P15: Insert twice", b.Insert("v", row(txt("a"), num(4))), api.ErrTwice, "v")
		shows(t, "Insert again", b, "v", row(txt("a"), num(3)))
		fine(t, "P15: Update", b.Update("t", row(num(5), txt(""))))
		fine(t, "P15: Delete", b.Delete("t", num(-6)))
		fine(t, "P15: Insert", b.Insert("t", row(num(-7), txt("n"))))
		fine(t, "P15: Delete", b.Delete("u", txt("")))
		shows(t, "others' rows", b, "t", row(num(-7), txt("n")), row(num(5), txt("")))
		lacks(t, "Delete", b, "t", num(-6))
		shows(t, "others' rows", b, "u", row(txt("a\x00b")))
		is(t, "P20: what is open is not on the disk", opened(t, d), short())
		fine(t, "P17: Abort", b.Abort())
		is(t, "P17: behind Abort", b, short())
	}
}

// Rows stand by rising keys, in whatever order they came.
func TestOrder(t *testing.T) {
	ints := []int{5, -1, 0, 1 << 62, -1 << 62, 256, 255, -256, 10, 9}
	texts := []string{"b", "", "ab", "a", "abc", "\xff", "a\x00", "\x00", "aa", "B"}
	_, b := made(t, 3000, does(1, create("n", api.Column{Name: "k", Type: api.Int}), create("s", api.Column{Name: "k", Type: api.Text})))
	var numbers, words [][]api.Value
	for i := range ints {
		fine(t, "P14: Begin", b.Begin(i))
		fine(t, "P15: Insert", b.Insert("n", row(num(ints[i]))))
		fine(t, "P15: Insert", b.Insert("s", row(txt(texts[i]))))
		if _, err := b.Commit(); err != nil {
			t.Fatal(err)
		}
	}
	slices.Sort(ints)
	slices.Sort(texts)
	for i := range ints {
		numbers = append(numbers, row(num(ints[i])))
		words = append(words, row(txt(texts[i])))
	}
	shows(t, "numbers", b, "n", numbers...)
	shows(t, "texts", b, "s", words...)
}

// What is handed in stays the caller's, and what is answered becomes it.
func TestMemory(t *testing.T) {
	d, b := made(t, 2000, short()...)
	columns := slices.Grow(kv(), 5)
	spare := columns[:7]
	spare[6] = api.Column{Name: "spare", Type: 9}
	given := slices.Grow(row(num(1), txt("one")), 5)
	fine(t, "P14: Begin", b.Begin(1))
	fine(t, "P14: Create", b.Create("v", columns))
	fine(t, "P15: Insert", b.Insert("v", given))
	if !slices.Equal(columns, kv()) || spare[6] != (api.Column{Name: "spare", Type: 9}) || !slices.Equal(given, row(num(1), txt("one"))) {
		t.Error("P2: what was handed in has changed")
	}
	columns[0].Type, columns[1].Name = api.Text, "x"
	given[0], given[1] = num(2), num(3)
	shows(t, "what was handed in is changed", b, "v", row(num(1), txt("one")))
	fine(t, "P15: Update", b.Update("v", row(num(1), txt("two"))))
	if _, err := b.Commit(); err != nil {
		t.Fatal(err)
	}
	want := short().with(does(1, create("v", kv()...), insert("v", num(1), txt("one")), update("v", num(1), txt("two"))))
	for range 2 {
		for _, name := range []string{"t", "u", "v"} {
			rows, _ := b.Scan(name)
			for _, r := range rows {
				got, _ := b.Get(name, r[0])
				scribble(got)
			}
			for _, r := range rows {
				scribble(r)
			}
			past, _ := b.History(name)
			for _, v := range past {
				scribble(v.Row)
			}
			clear(rows[:cap(rows)])
			clear(past[:cap(past)])
		}
		for n := 1; n <= 5; n++ {
			p, _ := b.Transaction(n)
			clear(p[:cap(p)])
		}
		is(t, "P2: answers are changed", b, want)
		fine(t, "P19: Checkpoint", b.Checkpoint())
	}
	is(t, "P2: answers are changed", opened(t, d), want)
}

// scribble changes a row, and the room behind it.
func scribble(r []api.Value) {
	for i := range r[:cap(r)] {
		r[:cap(r)][i] = api.Value{Type: 9, N: 9, S: "scribble"}
	}
}

// No two rows of one answer share memory, the room behind them too.
func TestAnswersShareNothing(t *testing.T) {
	l := ledger{does(1, create("t", kv()...))}
	for i := range 6 {
		l = l.with(does(i, insert("t", num(i), txt("a")), update("t", num(i), txt("b")), update("t", num(i), txt("c"))))
	}
	_, b := made(t, 2000, l...)
	rows, _ := b.Scan("t")
	past, _ := b.History("t")
	for i, r := range rows {
		if !slices.Equal(r, row(num(i), txt("c"))) {
			t.Errorf("P2: row %d is %v", i, r)
		}
		scribble(r)
	}
	for i, v := range past {
		if want := row(num(i/2), txt(string("ab"[i%2]))); !slices.Equal(v.Row, want) {
			t.Errorf("P2: version %d is %v, want %v", i, v.Row, want)
		}
		scribble(v.Row)
	}
	is(t, "P2: answers are changed", b, l)
}
