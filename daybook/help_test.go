package daybook_test

import (
	"errors"
	"slices"
	"testing"

	"daybook/api"
	"daybook/daybook"
	"daybook/disk"
)

func num(n int) api.Value { return api.Value{Type: api.Int, N: n} }

func txt(s string) api.Value { return api.Value{Type: api.Text, S: s} }

func row(values ...api.Value) []api.Value { return values }

// kv are the columns of most tables here: a number, a text.
func kv() []api.Column { return []api.Column{{Name: "k", Type: api.Int}, {Name: "v", Type: api.Text}} }

// formatted is a disk with an empty database.
func formatted(t *testing.T, sectors int) *disk.Disk {
	t.Helper()
	d := disk.New(sectors)
	fine(t, "P13: Format", daybook.Format(d))
	return d
}

// opened opens a database that must be there.
func opened(t *testing.T, d *disk.Disk) *daybook.DB {
	t.Helper()
	b, err := daybook.Open(d)
	if err != nil || b == nil {
		t.Fatalf("P13: Open = %v, %v", b, err)
	}
	return b
}

// made is a database in which these are committed.
func made(t *testing.T, sectors int, deals ...deal) (*disk.Disk, *daybook.DB) {
	t.Helper()
	d := formatted(t, sectors)
	b := opened(t, d)
	for i, x := range deals {
		commits(t, b, x, i+1)
	}
	return d, b
}

// fine fails the test if a call that must be answered without an error was not.
func fine(t *testing.T, what string, err error) {
	t.Helper()
	if err != nil {
		t.Fatalf("%s: %v", what, err)
	}
}

// wants: the error is of this kind, and of this table ("": of none).
func wants(t *testing.T, what string, err error, kind api.Kind, table string) {
	t.Helper()
	k, s := api.Told(err)
	if !errors.Is(err, kind) || k != kind || s != table {
		t.Errorf("%s: %v, want %v of %q", what, err, kind, table)
	}
}

// try does a whole transaction; it stops at the first error.
func try(b *daybook.DB, x deal) (int, error) {
	if err := b.Begin(x.time); err != nil {
		return 0, err
	}
	for _, a := range x.acts {
		if err := a.do(b); err != nil {
			return 0, err
		}
	}
	return b.Commit()
}

// commits: a transaction is committed, with this number.
func commits(t *testing.T, b *daybook.DB, x deal, number int) {
	t.Helper()
	if n, err := try(b, x); n != number || err != nil {
		t.Fatalf("P17: the transaction with the number %d: %d, %v", number, n, err)
	}
}

// is: the database tells what these transactions make, and nothing else.
func is(t *testing.T, what string, b *daybook.DB, l ledger) {
	t.Helper()
	if got, want := picture(b, names(l)), l.picture(names(l)); got != want {
		t.Fatalf("%s: the database tells\n%s\nwant\n%s", what, got, want)
	}
}

// unsafe is how many sectors of a disk are written and not safe: those that a crash can leave as they were written or break.
func unsafe(d *disk.Disk) int {
	written, broken, many := d.Copy(), d.Copy(), 0
	written.Crash(slices.Repeat([]int{1}, d.Sectors()))
	broken.Crash(slices.Repeat([]int{2}, d.Sectors()))
	for i := range d.Sectors() {
		_, there := written.Read(i)
		_, stillThere := broken.Read(i)
		if there && !stillThere {
			many++
		}
	}
	return many
}

// ways are all that a crash can do to so many sectors, or some of it, if that is too much.
func ways(sectors int) [][]int {
	if sectors > 3 {
		return someWays(sectors)
	}
	list := [][]int{{}}
	for range sectors {
		var longer [][]int
		for _, raw := range list {
			for c := range 3 {
				longer = append(longer, append(slices.Clone(raw), c))
			}
		}
		list = longer
	}
	return list
}

// someWays: all sectors are left alike, or the first, the last or one in the middle is left otherwise, or they take turns.
func someWays(sectors int) [][]int {
	var list [][]int
	for most := range 3 {
		list = append(list, slices.Repeat([]int{most}, sectors))
		for _, other := range []int{0, sectors / 2, sectors - 1} {
			raw := slices.Repeat([]int{most}, sectors)
			raw[other] = (most + 1) % 3
			list = append(list, raw)
		}
		turns := make([]int, sectors)
		for i := range turns {
			turns[i] = (i + most) % 3
		}
		list = append(list, turns)
	}
	return list
}

// breakSector makes a sector one that cannot be read.
func breakSector(d *disk.Disk, i int) {
	d.Sync()
	d.Write(i, "x")
	d.Crash([]int{2})
}
