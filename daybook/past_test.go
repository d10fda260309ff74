package daybook_test

import (
	"bytes"
	"math"
	"slices"
	"strings"
	"testing"

	"daybook/api"
	"daybook/daybook"
)

// throughout asks the same behind what must change nothing: a checkpoint, Open, both, and a transaction that is open or aborted.
func throughout(t *testing.T, l ledger, ask func(t *testing.T, what string, b *daybook.DB)) {
	t.Helper()
	d, b := made(t, 4000, l...)
	ask(t, "at once", b)
	ask(t, "behind Open", opened(t, d))
	fine(t, "P19: Checkpoint", b.Checkpoint())
	ask(t, "behind a checkpoint", b)
	b = opened(t, d)
	ask(t, "behind a checkpoint and Open", b)
	fine(t, "P19: Checkpoint", b.Checkpoint())
	d.Crash(nil)
	b = opened(t, d)
	ask(t, "behind two checkpoints, a crash and Open", b)
	fine(t, "P14: Begin", b.Begin(99))
	rows, _ := b.Scan("t")
	for _, r := range rows[:min(len(rows), api.MaxOps/2)] {
		fine(t, "P15: Update", b.Update("t", r))
		fine(t, "P15: Delete", b.Delete("t", r[0]))
	}
	ask(t, "with a transaction open", b)
	fine(t, "P17: Abort", b.Abort())
	ask(t, "behind Abort", b)
}

// Payloads byte by byte, as the document has them.
func TestPayloads(t *testing.T) {
	long := strings.Repeat("\xfe", 16)
	l := ledger{
		does(7, create("t", kv()...), insert("t", num(5), txt("x"))),
		does(-2, update("t", num(5), txt("")), remove("t", num(5))),
		does(math.MinInt, create("abcdefgh", column(0, api.Text), column(1, api.Int), column(2, api.Int), column(3, api.Text)), insert("abcdefgh", txt(long), num(math.MaxInt), num(math.MinInt), txt("a\x00")), remove("abcdefgh", txt(long))),
	}
	want := []string{
		"\x00\x00\x00\x00\x00\x00\x00\x07" + "\x02" + "\x01\x01t\x02\x01k\x01\x01v\x02" + "\x02\x01t\x02\x01\x00\x00\x00\x00\x00\x00\x00\x05\x02\x01x",
		"\xff\xff\xff\xff\xff\xff\xff\xfe" + "\x02" + "\x03\x01t\x02\x01\x00\x00\x00\x00\x00\x00\x00\x05\x02\x00" + "\x04\x01t\x01\x00\x00\x00\x00\x00\x00\x00\x05",
		"\x80\x00\x00\x00\x00\x00\x00\x00" + "\x03" + "\x01\x08abcdefgh\x04\x08eightlia\x02\x08eightlib\x01\x08eightlic\x01\x08eightlid\x02" +
			"\x02\x08abcdefgh\x04\x02\x10" + long + "\x01\x7f\xff\xff\xff\xff\xff\xff\xff\x01\x80\x00\x00\x00\x00\x00\x00\x00\x02\x02a\x00" + "\x04\x08abcdefgh\x02\x10" + long,
	}
	checks := []string{"", "", ""}
	for i, x := range l {
		p := x.payload()
		checks[i] = string(p[len(p)-4:])
	}
	throughout(t, l, func(t *testing.T, what string, b *daybook.DB) {
		t.Helper()
		for i := range want {
			if p, err := b.Transaction(i + 1); err != nil || string(p) != want[i]+checks[i] {
				t.Errorf("P18: %s: Transaction(%d) = %q, %v, want %q", what, i+1, p, err, want[i]+checks[i])
			}
		}
		for _, n := range []int{0, -1, 4, 5, 256, 1 << 16, 1 << 32, 1<<32 + 1, 1 << 40, math.MaxInt, math.MinInt} {
			p, err := b.Transaction(n)
			wants(t, "P18: "+what+": Transaction of no number", err, api.ErrArg, "")
			if p != nil {
				t.Error("P1: a payload beside ErrArg")
			}
		}
	})
}

// A payload of MaxOps of the greatest ops is told whole, from the log and from the tree, with others about it.
func TestGreatestPayload(t *testing.T) {
	l := ledger{does(1, greatest(0))}
	for i := range 3 {
		x := deal{time: i}
		for n := range api.MaxOps {
			x.acts = append(x.acts, greatest(1+i*api.MaxOps+n))
		}
		l = l.with(x, does(1, remove("greatest", x.acts[0].row[0])))
	}
	throughout(t, l, func(t *testing.T, what string, b *daybook.DB) {
		t.Helper()
		for i, x := range l {
			if p, err := b.Transaction(i + 1); err != nil || !bytes.Equal(p, x.payload()) {
				t.Errorf("P18: %s: Transaction(%d) = %x, %v, want %x", what, i+1, p, err, x.payload())
			}
		}
	})
}

func version(from, to int, values ...api.Value) api.Version {
	return api.Version{Row: values, From: from, To: to}
}

func sameVersion(x, y api.Version) bool {
	return x.From == y.From && x.To == y.To && slices.Equal(x.Row, y.Row)
}

// Histories: of rows of other transactions and of the same one, of rows that were deleted and inserted again, in the order of the ops.
func TestHistories(t *testing.T) {
	l := ledger{
		does(1, create("t", kv()...), create("u", kv()...), insert("t", num(5), txt("x"))),
		does(2, update("t", num(5), txt("y")), remove("t", num(5))),
		does(3, insert("t", num(9), txt("nine")), insert("t", num(5), txt("again")), insert("u", num(5), txt("other"))),
		does(4, update("u", num(5), txt("o")), update("t", num(9), txt("n")), remove("t", num(5)), insert("t", num(5), txt("third")), update("t", num(5), txt("fourth"))),
		does(5, insert("t", num(1), txt("one")), remove("t", num(9)), update("t", num(5), txt("fourth"))),
		does(6, create("empty", kv()...), insert("empty", num(1), txt(""))),
	}
	want := map[string][]api.Version{
		"t": {
			version(1, 2, num(5), txt("x")), version(2, 2, num(5), txt("y")),
			version(3, 4, num(9), txt("nine")), version(3, 4, num(5), txt("again")), version(4, 4, num(5), txt("third")),
			version(4, 5, num(9), txt("n")), version(4, 5, num(5), txt("fourth")),
		},
		"u":     {version(3, 4, num(5), txt("other"))},
		"empty": nil,
	}
	throughout(t, l, func(t *testing.T, what string, b *daybook.DB) {
		t.Helper()
		for name, versions := range want {
			if got, err := b.History(name); err != nil || !slices.EqualFunc(got, versions, sameVersion) {
				t.Errorf("P18: %s: History(%s) = %v, %v, want %v", what, name, got, err, versions)
			}
		}
		got, err := b.History("nosuch")
		wants(t, "P18: "+what+": History of no table", err, api.ErrTable, "nosuch")
		if got != nil {
			t.Error("P1: a history beside ErrTable")
		}
	})
}

// A table that the open transaction made is there, and has no history; what it made and what it put an end to is in the history when it is committed.
func TestHistoryOfOpenTransaction(t *testing.T) {
	_, b := made(t, 1000, short()...)
	fine(t, "P14: Begin", b.Begin(1))
	_, err := b.History("v")
	wants(t, "P18: History of no table", err, api.ErrTable, "v")
	for _, a := range []act{create("v", kv()...), insert("v", num(1), txt("a")), update("v", num(1), txt("b")), remove("v", num(1))} {
		fine(t, "P15: "+a.what, a.do(b))
		if l, err := b.History("v"); err != nil || len(l) != 0 {
			t.Errorf("P18: History of a table that is not committed = %v, %v", l, err)
		}
	}
	_, err = b.Transaction(5)
	wants(t, "P18: Transaction that is open", err, api.ErrArg, "")
	if n, err := b.Commit(); n != 5 || err != nil {
		t.Fatalf("P17: Commit = %d, %v", n, err)
	}
	want := []api.Version{version(5, 5, num(1), txt("a")), version(5, 5, num(1), txt("b"))}
	if l, err := b.History("v"); err != nil || !slices.EqualFunc(l, want, sameVersion) {
		t.Errorf("P18: History = %v, %v, want %v", l, err, want)
	}
}

// The document's examples.
func TestExamples(t *testing.T) {
	_, b := made(t, 1000, does(7, create("t", kv()...), insert("t", num(5), txt("x"))), does(8, update("t", num(5), txt("y")), remove("t", num(5))))
	want := []api.Version{version(1, 2, num(5), txt("x")), version(2, 2, num(5), txt("y"))}
	if l, err := b.History("t"); err != nil || !slices.EqualFunc(l, want, sameVersion) {
		t.Errorf("P18: History = %v, %v, want %v", l, err, want)
	}
}

// A checkpoint changes nothing that any call tells; nor does one that a database makes by itself.
func TestCheckpoint(t *testing.T) {
	d, b := made(t, 1000)
	var l ledger
	fine(t, "P19: Checkpoint of nothing", b.Checkpoint())
	is(t, "P19: Checkpoint of nothing", b, nil)
	for i, x := range long() {
		commits(t, b, x, i+1)
		l = l.with(x)
		is(t, "P19: a commit", b, l)
		if i%6 == 5 {
			for range 3 {
				fine(t, "P19: Checkpoint", b.Checkpoint())
				is(t, "P19: Checkpoint", b, l)
				is(t, "P19: Checkpoint and Open", opened(t, d), l)
			}
		}
		fine(t, "P14: Begin", b.Begin(1))
		wants(t, "P19: Checkpoint with a transaction open", b.Checkpoint(), api.ErrBegun, "")
		fine(t, "P15: Insert", b.Insert("t", row(num(-999), txt("gone"))))
		wants(t, "P19: Checkpoint with an op", b.Checkpoint(), api.ErrBegun, "")
		fine(t, "P17: Abort", b.Abort())
	}
}

// A database makes checkpoints by itself: in a Commit that writes more than its own payload takes.
func TestCheckpointByItself(t *testing.T) {
	d, b := made(t, 1000)
	var l ledger
	least, most := math.MaxInt, 0
	for i, x := range long() {
		from := d.Writes()
		commits(t, b, x, i+1)
		l = l.with(x)
		least, most = min(least, d.Writes()-from), max(most, d.Writes()-from)
		is(t, "P19: a commit", b, l)
		is(t, "P19: a commit and Open", opened(t, d.Copy()), l)
	}
	if least != 2 || most < 10 {
		t.Errorf("P19: Commits wrote %d to %d sectors: none made a checkpoint, or each did", least, most)
	}
}
