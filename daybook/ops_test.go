package daybook_test

import (
	"math"
	"slices"
	"strings"
	"testing"

	"daybook/api"
	"daybook/daybook"
	"daybook/disk"
)

func TestBegin(t *testing.T) {
	times := []int{0, 1, -1, 7, math.MaxInt, math.MinInt, 1 << 40}
	_, b := made(t, 1000)
	fine(t, "P14: Begin", b.Begin(0))
	wants(t, "P14: Begin twice", b.Begin(0), api.ErrBegun, "")
	fine(t, "P14: Create", b.Create("t", kv()))
	wants(t, "P14: Begin behind an op", b.Begin(3), api.ErrBegun, "")
	fine(t, "P17: Abort", b.Abort())
	l := ledger{does(0, create("t", kv()...))}
	commits(t, b, l[0], 1)
	for i, time := range times {
		x := does(time, insert("t", num(i), txt("")))
		l = l.with(x)
		commits(t, b, x, len(l))
	}
	is(t, "P14: times of any number", b, l)
}

// begun is a database with the tables of short, with a transaction open.
func begun(t *testing.T, sectors int) (*disk.Disk, *daybook.DB) {
	t.Helper()
	d, b := made(t, sectors, short()...)
	fine(t, "P14: Begin", b.Begin(5))
	return d, b
}

func TestWithoutTransaction(t *testing.T) {
	_, b := made(t, 1000, short()...)
	for what, err := range map[string]error{
		"Create": b.Create("v", kv()), "Create of no name": b.Create("", nil), "Insert": b.Insert("t", row(num(1), txt(""))), "Insert into no table": b.Insert("nosuch", nil),
		"Update": b.Update("t", row(num(5), txt(""))), "Update of no row": b.Update("t", nil), "Delete": b.Delete("t", num(5)), "Delete of no key": b.Delete("t", api.Value{}),
	} {
		wants(t, "P14, P15: "+what+" without a transaction", err, api.ErrOver, "")
	}
	is(t, "P1: behind errors", b, short())
}

// MaxOps ops, and one more, whatever that is.
func TestMaxOps(t *testing.T) {
	_, b := made(t, 2000, short()...)
	fine(t, "P14: Begin", b.Begin(5))
	var acts []act
	for i := range api.MaxOps {
		a := insert("t", num(1000+i), txt("x"))
		acts = append(acts, a)
		wants(t, "P15: an op that is wrong", b.Insert("t", nil), api.ErrRow, "t")
		fine(t, "P15: Insert", a.do(b))
	}
	for what, err := range map[string]error{
		"Create": b.Create("v", kv()), "Create of no name": b.Create("", nil), "Insert": b.Insert("t", row(num(1), txt(""))), "Insert into no table": b.Insert("nosuch", nil),
		"Update": b.Update("t", row(num(5), txt(""))), "Update of no row": b.Update("t", nil), "Delete": b.Delete("t", num(5)), "Delete of no key": b.Delete("t", api.Value{}),
	} {
		wants(t, "P14, P15: "+what+" behind MaxOps ops", err, api.ErrMany, "")
	}
	if n, err := b.Commit(); n != 5 || err != nil {
		t.Fatalf("P17: Commit of MaxOps ops = %d, %v", n, err)
	}
	is(t, "P15: MaxOps ops", b, short().with(deal{5, acts}))
}

func TestNames(t *testing.T) {
	_, b := begun(t, 1000)
	for _, name := range []string{"", "A", "a1", "1", "_", "a b", "a ", " a", "aB", "ä", "a\x00", "\xff", "`", "{", "abcdefghi", "ninechars", strings.Repeat("a", 256), strings.Repeat("a", 264), strings.Repeat("x", 100000)} {
		wants(t, "P14: Create of a name of "+name[:min(9, len(name))], b.Create(name, kv()), api.ErrName, name)
		wants(t, "P14: Create of a name of "+name[:min(9, len(name))], b.Create(name, nil), api.ErrName, name)
		wants(t, "P15: Insert into no table", b.Insert(name, nil), api.ErrTable, name)
		bad := []api.Column{{Name: "k", Type: api.Int}, {Name: name, Type: api.Int}}
		wants(t, "P14: a column's name", b.Create("v", bad), api.ErrColumns, "v")
		wants(t, "P14: a column's name", b.Create("v", bad[1:]), api.ErrColumns, "v")
	}
	for _, name := range []string{"a", "z", "abcdefgh", "zzzzzzzz"} {
		fine(t, "P14: Create of "+name, b.Create(name, []api.Column{{Name: name, Type: api.Text}}))
		fine(t, "P17: Abort", b.Abort())
		fine(t, "P14: Begin", b.Begin(5))
	}
}

func TestColumns(t *testing.T) {
	_, b := begun(t, 1000)
	all := []api.Column{{Name: "a", Type: api.Int}, {Name: "b", Type: api.Text}, {Name: "c", Type: api.Text}, {Name: "d", Type: api.Int}, {Name: "e", Type: api.Int}}
	twice := slices.Clone(all[:4])
	twice[3].Name = "a"
	beside := slices.Clone(all[:2])
	beside[1].Name = "a"
	for _, l := range [][]api.Column{nil, {}, all, slices.Repeat(all, 60), twice, beside, {{Name: "a", Type: 0}}, {{Name: "a", Type: 3}}, {{Name: "a", Type: -1}}, {{Name: "a", Type: 257}}, {{Name: "a", Type: 1 << 40}}, {{Name: "a", Type: 1}, {Name: "b", Type: 258}}} {
		wants(t, "P14: Create with wrong columns", b.Create("v", l), api.ErrColumns, "v")
	}
	for n := 1; n <= api.MaxColumns; n++ {
		name := strings.Repeat("v", n)
		given := slices.Clone(all[:n])
		fine(t, "P14: Create", b.Create(name, given))
		clear(given) // it is the caller's
		var r []api.Value
		for _, c := range all[:n] {
			r = append(r, api.Value{Type: c.Type})
		}
		fine(t, "P15: Insert", b.Insert(name, r))
		wants(t, "P15: a row of too few", b.Insert(name, r[:n-1]), api.ErrRow, name)
		wants(t, "P15: a row of too many", b.Insert(name, append(r, num(0))), api.ErrRow, name)
		if n == 2 {
			fine(t, "P17: Abort", b.Abort())
			fine(t, "P14: Begin", b.Begin(5))
		}
	}
}

// Which of its errors Create names first.
func TestCreateOrder(t *testing.T) {
	_, b := begun(t, 1000)
	wants(t, "P14: a table that is there, with wrong columns", b.Create("t", nil), api.ErrTwice, "t")
	wants(t, "P14: a table that is there", b.Create("u", kv()), api.ErrTwice, "u")
	fine(t, "P14: Create", b.Create("v", kv()))
	wants(t, "P14: a table that the transaction made", b.Create("v", kv()), api.ErrTwice, "v")
	fine(t, "P14: Create", b.Create("w", kv()))
	wants(t, "P14: a fifth table", b.Create("x", kv()), api.ErrMany, "")
	wants(t, "P14: a fifth table with wrong columns", b.Create("x", nil), api.ErrMany, "")
	wants(t, "P14: a fifth table that is there", b.Create("w", nil), api.ErrTwice, "w")
	wants(t, "P14: a fifth table of no name", b.Create("X", nil), api.ErrName, "X")
	fine(t, "P17: Abort", b.Abort())
	fine(t, "P14: Begin", b.Begin(5))
	fine(t, "P14: Create behind Abort", b.Create("x", kv()))
	fine(t, "P14: Create behind Abort", b.Create("v", kv()))
	wants(t, "P14: a fifth table", b.Create("y", kv()), api.ErrMany, "")
	if _, err := b.Commit(); err != nil {
		t.Fatal(err)
	}
	fine(t, "P14: Begin", b.Begin(5))
	wants(t, "P14: a fifth table behind Commit", b.Create("y", kv()), api.ErrMany, "")
}

func wrongRows() [][]api.Value {
	long := strings.Repeat("x", api.MaxText+1)
	return [][]api.Value{
		nil, {}, row(num(5)), row(num(5), txt("a"), txt("b")), slices.Repeat(row(num(5)), 300),
		row(txt("5"), txt("a")), row(num(5), num(6)), row(txt("a"), num(5)),
		row(num(5), txt(long)), row(num(5), txt(strings.Repeat("x", 272))), row(num(5), txt(strings.Repeat("x", 100000))),
		row(num(5), api.Value{Type: api.Text, N: 1}), row(num(5), api.Value{Type: api.Text, N: -1, S: "a"}),
		row(api.Value{Type: api.Int, N: 5, S: "x"}, txt("a")), row(api.Value{Type: api.Int, N: 5, S: long}, txt("a")),
		row(api.Value{}, txt("a")), row(num(5), api.Value{}), row(api.Value{Type: 3, N: 5}, txt("a")), row(num(5), api.Value{Type: 3}), row(num(5), api.Value{Type: 258, S: "a"}), row(api.Value{Type: -255, N: 5}, txt("a")),
	}
}

// Which of their errors Insert, Update and Delete name first.
func TestRowErrors(t *testing.T) {
	_, b := begun(t, 1000)
	for _, r := range append(wrongRows(), row(num(5), txt("a"))) {
		wants(t, "P15: Insert into no table", b.Insert("nosuch", r), api.ErrTable, "nosuch")
		wants(t, "P15: Update in no table", b.Update("nosuch", r), api.ErrTable, "nosuch")
	}
	for _, r := range wrongRows() {
		was := slices.Clone(r)
		wants(t, "P15: Insert of a wrong row", b.Insert("t", r), api.ErrRow, "t")
		wants(t, "P15: Update of a wrong row", b.Update("t", r), api.ErrRow, "t")
		if !slices.Equal(r, was) {
			t.Error("P2: a row that was handed in has changed")
		}
	}
	wants(t, "P15: Insert twice", b.Insert("t", row(num(5), txt("a"))), api.ErrTwice, "t")
	wants(t, "P15: Update of no row", b.Update("t", row(num(6), txt("a"))), api.ErrNone, "t")
	wants(t, "P15: Delete in no table", b.Delete("nosuch", api.Value{}), api.ErrTable, "nosuch")
	wants(t, "P15: Delete of no row", b.Delete("t", num(6)), api.ErrNone, "t")
	_, err := b.Get("nosuch", api.Value{})
	wants(t, "P16: Get in no table", err, api.ErrTable, "nosuch")
	_, err = b.Get("t", num(6))
	wants(t, "P16: Get of no row", err, api.ErrNone, "t")
	for _, key := range []api.Value{{}, txt("5"), {Type: api.Int, N: 5, S: "x"}, {Type: 3, N: 5}, {Type: api.Text, N: 5}, {Type: 257, N: 5}} {
		wants(t, "P15: Delete of a wrong key", b.Delete("t", key), api.ErrRow, "t")
		_, err := b.Get("t", key)
		wants(t, "P16: Get of a wrong key", err, api.ErrRow, "t")
	}
	for _, key := range []api.Value{{}, num(0), {Type: api.Text, N: 5}, txt(strings.Repeat("x", 17)), {Type: 258}} {
		wants(t, "P15: Delete of a wrong key", b.Delete("u", key), api.ErrRow, "u")
		_, err := b.Get("u", key)
		wants(t, "P16: Get of a wrong key", err, api.ErrRow, "u")
	}
	is(t, "P1: behind errors", b, short())
	if n, err := b.Commit(); n != 0 || err != nil {
		t.Errorf("P15: calls that answered errors have added ops: Commit = %d, %v", n, err)
	}
}

// The least and the greatest of all, as keys and as other values; texts of any bytes.
func TestEdges(t *testing.T) {
	ints := []int{0, 1, -1, math.MaxInt, math.MinInt, 255, 256, -256, 1 << 32}
	texts := []string{"", "\x00", "a", "a\x00", "aa", "b", "\xff", strings.Repeat("\xff", 16), strings.Repeat("a", 15), strings.Repeat("a", 16), "\x00\x01\x02\xfe", "äöü", "Z", "`"}
	l := ledger{does(1, create("ints", api.Column{Name: "k", Type: api.Int}, api.Column{Name: "n", Type: api.Int}), create("texts", api.Column{Name: "k", Type: api.Text}, api.Column{Name: "n", Type: api.Text}))}
	_, b := made(t, 4000, l...)
	for i, n := range ints {
		l = l.with(does(i, insert("ints", num(n), num(ints[len(ints)-1-i]))))
		commits(t, b, l[len(l)-1], len(l))
	}
	for i, s := range texts {
		l = l.with(does(i, insert("texts", txt(s), txt(texts[len(texts)-1-i]))))
		commits(t, b, l[len(l)-1], len(l))
	}
	is(t, "P15, P16: edges", b, l)
	for i, n := range ints {
		l = l.with(does(i, update("ints", num(n), num(n)), remove("texts", txt(texts[i]))))
		commits(t, b, l[len(l)-1], len(l))
	}
	is(t, "P15, P16: edges", b, l)
	fine(t, "P19: Checkpoint", b.Checkpoint())
	is(t, "P15, P16: edges", b, l)
}
