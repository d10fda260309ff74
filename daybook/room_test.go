package daybook_test

import (
	"math"
	"strconv"
	"strings"
	"testing"

	"daybook/api"
	"daybook/daybook"
	"daybook/disk"
)

// promised is how many ops have room on a disk, whatever they are, by P17.
func promised(sectors int) int { return max(0, (sectors-120)/60) }

// ops makes the n-th op of a database, from 0 on; all of one kind, as far as that can be.
type ops func(n int) act

func column(i int, of api.Type) api.Column {
	return api.Column{Name: "eightli" + string(rune('a'+i)), Type: of}
}

// greatest are ops of as many bytes as there can be: rows of four texts.
func greatest(n int) act {
	const table = "greatest"
	if n == 0 {
		return create(table, column(0, api.Text), column(1, api.Text), column(2, api.Text), column(3, api.Text))
	}
	key := strings.Repeat("k", 12) + strconv.Itoa(1000+n)
	value := txt(strings.Repeat("\xff", api.MaxText))
	return insert(table, txt(key), value, value, value)
}

// updates are the greatest ops that leave a history, too.
func updates(n int) act {
	a := greatest(min(n, 1))
	if n > 1 {
		a.what = "update"
	}
	return a
}

// smallest are ops of as few bytes as there can be.
func smallest(n int) act {
	key := api.Column{Name: "k", Type: api.Text}
	switch {
	case n == 0:
		return create("t", key)
	case n%2 == 1:
		return insert("t", txt(""))
	}
	return remove("t", txt(""))
}

// numbersOnly are rows of the greatest and least numbers.
func numbersOnly(n int) act {
	if n == 0 {
		return create("n", column(0, api.Int), column(1, api.Int), column(2, api.Int), column(3, api.Int))
	}
	return insert("n", num(math.MaxInt-n), num(math.MinInt), num(-1), num(math.MaxInt))
}

// tablesOnly are as many tables as there can be, then rows.
func tablesOnly(n int) act {
	if n < api.MaxTables {
		return create("eightle"+string(rune('a'+n)), column(0, api.Int), column(1, api.Int), column(2, api.Text), column(3, api.Text))
	}
	return insert("eightlea", num(n), num(0), txt(""), txt(""))
}

func kinds() map[string]ops {
	return map[string]ops{"the greatest": greatest, "updates": updates, "the smallest": smallest, "numbers": numbersOnly, "tables": tablesOnly}
}

// upTo commits ops in transactions of so many each, up to a number of ops in all.
func upTo(t *testing.T, what string, d *disk.Disk, make ops, each, most int, between func(b *daybook.DB) *daybook.DB) (*daybook.DB, ledger) {
	t.Helper()
	b := opened(t, d)
	var l ledger
	for n := 0; n < most; {
		x := deal{time: math.MinInt + n}
		for len(x.acts) < each && n < most {
			x.acts = append(x.acts, make(n))
			n++
		}
		if number, err := try(b, x); err != nil || number != len(l)+1 {
			t.Fatalf("P17: %s: transaction %d of %d ops, of %d ops that must have room: %d, %v", what, len(l)+1, len(x.acts), most, number, err)
		}
		l = append(l, x)
		b = between(b)
	}
	return b, l
}

// The room that P17 promises is there up to its edge.
func TestRoom(t *testing.T) {
	for name, make := range kinds() {
		for _, each := range []int{1, 2, 3, 7, api.MaxOps} {
			for _, sectors := range []int{64, 179, 180, 239, 240, 300, 420, 1079, 1080, 1140, 2220, 4080, disk.Most} {
				what := name + ", " + strconv.Itoa(each) + " each, on " + strconv.Itoa(sectors) + " sectors"
				d := formatted(t, sectors)
				b, l := upTo(t, what, d, make, each, promised(sectors), func(b *daybook.DB) *daybook.DB { return b })
				if l.ops() != promised(sectors) {
					t.Fatal("the test is wrong")
				}
				is(t, what, b, l)
				is(t, what, opened(t, d), l)
			}
		}
	}
}

// It is there with checkpoints and Open between, too.
func TestRoomWithCheckpoints(t *testing.T) {
	for name, make := range kinds() {
		for _, each := range []int{1, api.MaxOps} {
			for _, sectors := range []int{180, 480, 1140, disk.Most} {
				d := formatted(t, sectors)
				b, l := upTo(t, name+" with checkpoints", d, make, each, promised(sectors), func(b *daybook.DB) *daybook.DB {
					fine(t, "P19: Checkpoint", b.Checkpoint())
					return b
				})
				is(t, name+" with checkpoints", b, l)
				d = formatted(t, sectors)
				b, l = upTo(t, name+" with Open", d, make, each, promised(sectors), func(*daybook.DB) *daybook.DB { return opened(t, d) })
				is(t, name+" with Open", b, l)
				fine(t, "P19: Checkpoint", b.Checkpoint())
				is(t, name+" with Open", opened(t, d), l)
			}
		}
	}
}

// Ops of transactions that were aborted take no room.
func TestAbortedOpsTakeNoRoom(t *testing.T) {
	const sectors = 480
	d := formatted(t, sectors)
	_, l := upTo(t, "with aborted ones", d, greatest, 1, promised(sectors), func(b *daybook.DB) *daybook.DB {
		for range 20 {
			fine(t, "P14: Begin", b.Begin(1))
			fine(t, "P15: an op of the promised room", b.Insert("greatest", greatest(500).row))
			fine(t, "P17: Abort", b.Abort())
		}
		return opened(t, d)
	}) // the last round has more ops than there is room for by the promise; they have it by this program's count
	is(t, "with aborted ones", opened(t, d), l)
}

// Where there is no room: ErrFull of no table, the transaction is undone and over, and what was committed is as it was, and stays so.
func TestFull(t *testing.T) {
	for name, make := range kinds() {
		for _, each := range []int{1, 5, api.MaxOps} {
			for _, sectors := range []int{64, 100, 180, 420} {
				what := name + " on a disk that is full"
				d := formatted(t, sectors)
				b := opened(t, d)
				l := fill(t, what, b, make, each)
				if want := promised(sectors) / each * each; l.ops() < want {
					t.Errorf("P17: %s: %d ops had room, want %d", what, l.ops(), want)
				}
				_, err := b.Commit()
				wants(t, "P17: "+what+": Commit", err, api.ErrOver, "")
				wants(t, "P17: "+what+": Abort", b.Abort(), api.ErrOver, "")
				is(t, "P17: "+what, b, l)
				is(t, "P17: "+what, opened(t, d), l)
				fine(t, "P19: Checkpoint of a full disk", b.Checkpoint())
				is(t, "P17: "+what, b, l)
				again := fill(t, what, b, func(n int) act { return make(l.ops() + n) }, each)
				if len(again) > 0 {
					t.Errorf("P17: %s: there was room again, for %d ops", what, again.ops())
				}
				d.Crash(nil)
				is(t, "P17: "+what, opened(t, d), l)
			}
		}
	}
}

// fill commits ops as long as there is room; it answers what was committed.
func fill(t *testing.T, what string, b *daybook.DB, make ops, each int) ledger {
	t.Helper()
	var l ledger
	for n := 0; n < 20000; n += each {
		x := deal{time: n}
		for i := range each {
			x.acts = append(x.acts, make(n+i))
		}
		number, err := try(b, x)
		if err != nil {
			wants(t, "P17: "+what, err, api.ErrFull, "")
			if number != 0 {
				t.Errorf("P1: %d beside ErrFull", number)
			}
			return l
		}
		l = append(l, x)
	}
	t.Fatalf("P17: %s: it is never full", what)
	return nil
}

// A smaller op has room when a greater one has none.
func TestSmallerOneFits(t *testing.T) {
	d := formatted(t, 180)
	b := opened(t, d)
	l := fill(t, "a full disk", b, greatest, 1)
	x := does(1, remove("greatest", greatest(1).row[0]))
	for n, err := try(b, x); err == nil; n, err = try(b, x) {
		l = l.with(x)
		if n != len(l) {
			t.Fatalf("P17: the number is %d, want %d", n, len(l))
		}
		x = does(1, insert("greatest", txt(""), txt(""), txt(""), txt("")))
		if len(l)%2 == 0 {
			x = does(1, remove("greatest", txt("")))
		}
	}
	is(t, "P17: behind ErrFull", b, l)
	is(t, "P17: behind ErrFull", opened(t, d), l)
}

// An op that is wrong is told ahead of ErrFull, and leaves the transaction as it is.
func TestWrongAheadOfFull(t *testing.T) {
	b := opened(t, formatted(t, 64))
	fill(t, "a full disk", b, tablesOnly, 1)
	fine(t, "P14: Begin", b.Begin(1))
	wants(t, "P15: a wrong op on a full disk", b.Insert("nosuch", nil), api.ErrTable, "nosuch")
	wants(t, "P14: a wrong op on a full disk", b.Create("v", nil), api.ErrColumns, "v")
	wants(t, "P14: no room", b.Create("v", greatest(0).columns), api.ErrFull, "")
	wants(t, "P17: over", b.Abort(), api.ErrOver, "")
}
