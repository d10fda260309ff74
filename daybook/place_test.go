package daybook_test

import (
	"errors"
	"math"
	"strings"
	"testing"

	"daybook/api"
	"daybook/daybook"
	"daybook/disk"
	"daybook/numbers"
	"daybook/sums"
	"daybook/tree"
	"daybook/wal"
)

func TestPlace(t *testing.T) {
	for _, d := range []*disk.Disk{nil, disk.New(0), disk.New(1), disk.New(17), disk.New(63)} {
		wants(t, "P13: Format of too few sectors", daybook.Format(d), api.ErrPlace, "")
		b, err := daybook.Open(d)
		wants(t, "P13: Open of too few sectors", err, api.ErrPlace, "")
		if b != nil {
			t.Error("P1: a database beside ErrPlace")
		}
	}
	dead := disk.New(63)
	dead.Die(0)
	wants(t, "P13: Format of a small dead disk", daybook.Format(dead), api.ErrPlace, "")
	_, err := daybook.Open(dead)
	wants(t, "P13: Open of a small dead disk", err, api.ErrPlace, "")
	for _, sectors := range []int{64, 65, 100, 1000, disk.Most} {
		is(t, "P13: a new database", opened(t, formatted(t, sectors)), nil)
	}
}

// short is a few transactions that leave nothing out.
func short() ledger {
	return ledger{
		does(7, create("t", kv()...), insert("t", num(5), txt("x"))),
		does(-8, insert("t", num(-6), txt("")), update("t", num(5), txt("y")), create("u", api.Column{Name: "key", Type: api.Text})),
		does(9, insert("u", txt("")), remove("t", num(5)), insert("u", txt("a\x00b"))),
		does(math.MinInt, update("t", num(-6), txt("sixteen letters!")), insert("t", num(5), txt("again"))),
	}
}

// long is enough transactions for some checkpoints that a database makes by itself.
func long() ledger {
	l := short()
	for i := range 40 {
		l = append(l, does(i, insert("t", num(100+i), txt("row")), update("t", num(5), txt(strings.Repeat("v", i%17)))))
	}
	return l
}

// stood are disks on which something stands already.
func stood(t *testing.T) map[string]*disk.Disk {
	t.Helper()
	const sectors = 640
	list := map[string]*disk.Disk{"noughts": disk.New(sectors)}
	list["a database with nothing in its tree"], _ = made(t, sectors, short()...)
	list["a database with a full log"], _ = made(t, sectors, long()...)
	d, b := made(t, sectors, short()...)
	fine(t, "P19: Checkpoint", b.Checkpoint())
	list["a database with nothing in its log"] = d
	list["a log"] = disk.New(sectors)
	fine(t, "P5: Create", wal.Create(list["a log"], 0, sectors))
	list["a tree"] = disk.New(sectors)
	fine(t, "P9: Create", tree.Create(list["a tree"], 0, sectors))
	for _, c := range []string{"\x00", "\x01", "\x7f", "\xff", "log", "tree"} {
		list["sectors of "+c] = filledWith(sectors, c)
	}
	broken := disk.New(sectors)
	for i := range sectors {
		breakSector(broken, i)
	}
	list["broken sectors"] = broken
	return list
}

func filledWith(sectors int, like string) *disk.Disk {
	d := disk.New(sectors)
	for i := range sectors {
		d.Write(i, strings.Repeat(like, disk.Size)[:disk.Size])
	}
	d.Sync()
	return d
}

func TestFormatOverWhateverStood(t *testing.T) {
	for what, d := range stood(t) {
		fine(t, "P13: Format over "+what, daybook.Format(d))
		d.Crash(nil)
		b := opened(t, d)
		is(t, "P13: a database over "+what, b, nil)
		for i, x := range long() {
			commits(t, b, x, i+1)
		}
		is(t, "P13: a database over "+what, opened(t, d), long())
		fine(t, "P13: Format over a database over "+what, daybook.Format(d))
		is(t, "P13: a database over a database over "+what, opened(t, d), nil)
	}
}

// Format is safe at once: what a crash does makes no difference.
func TestFormatIsSafe(t *testing.T) {
	for what, d := range stood(t) {
		fine(t, "P13: Format over "+what, daybook.Format(d))
		for _, raw := range ways(8) {
			c := d.Copy()
			c.Crash(raw)
			is(t, "P13: a database over "+what+" behind a crash", opened(t, c), nil)
		}
	}
}

// renumbered is a sector that tells this number where a log's sectors tell their epoch, or a tree's heads their generation.
func renumbered(text string, n uint64) string {
	for _, c := range []struct {
		mark        string
		at, checkAt int
	}{{"log", 3, 226}, {"tree", 13, 27}} {
		if strings.HasPrefix(text, c.mark) {
			b := append([]byte(text[:c.at]), numbers.Append(nil, n, 8)...)
			b = append(b, text[c.at+8:c.checkAt]...)
			b = numbers.Append(b, uint64(sums.Check(b)), 4)
			return string(b) + text[len(b):]
		}
	}
	return text
}

// Whatever numbers stand on the disk, as great as they can be: behind Format there is an empty database, that takes what it should.
func TestFormatOverAnyNumbers(t *testing.T) {
	for _, n := range []uint64{0, 1, math.MaxInt64 - 1, math.MaxInt64, math.MaxInt64 + 1, math.MaxUint64 - 2, math.MaxUint64 - 1, math.MaxUint64} {
		for _, apart := range []uint64{0, 1, math.MaxUint64} {
			d, _ := made(t, 640, long()...)
			renumber(d, n, apart)
			fine(t, "P13: Format over great numbers", daybook.Format(d))
			d.Crash(nil)
			b := opened(t, d)
			is(t, "P13: a database over great numbers", b, nil)
			for i, x := range long() {
				commits(t, b, x, i+1)
			}
			d.Crash(nil)
			is(t, "P20: a database over great numbers", opened(t, d), long())
		}
	}
}

// renumber lays these numbers into all sectors, each next one so far behind the one ahead.
func renumber(d *disk.Disk, n, apart uint64) {
	for i := range d.Sectors() {
		if text, ok := d.Read(i); ok {
			d.Write(i, renumbered(text, n+uint64(i)*apart))
		}
	}
	d.Sync()
}

// When the disk dies in Format, what was there is there still, whole, or an empty database.
func TestFormatDies(t *testing.T) {
	for what, old := range stood(t) {
		was, before := daybook.Open(old.Copy())
		l := ledger(nil)
		if before == nil {
			l = l.with(long()[:countOf(t, was)]...)
		}
		steps := 0
		for ; ; steps++ {
			d := old.Copy()
			d.Die(steps)
			err := daybook.Format(d)
			if err == nil {
				break
			}
			wants(t, "P13: Format over "+what+" when the disk dies", err, api.ErrDisk, "")
			_, err = daybook.Open(d)
			wants(t, "P13: Open of a dead disk", err, api.ErrDisk, "")
			for _, raw := range ways(unsafe(d)) {
				c := d.Copy()
				c.Crash(raw)
				b, err := daybook.Open(c)
				if before != nil && errors.Is(err, api.ErrForm) && b == nil {
					continue // there was none
				}
				fine(t, "P20: Open over "+what+" behind a Format that died", err)
				if got := picture(b, names(l)); got != l.picture(names(l)) {
					is(t, "P20: a database over "+what+" behind a Format that died", b, nil)
				}
				stillWorks(t, c, b)
			}
		}
		if steps < 3 {
			t.Errorf("P13: Format over %s asked the disk %d times", what, steps)
		}
	}
}

// countOf is how many transactions are committed.
func countOf(t *testing.T, b *daybook.DB) int {
	t.Helper()
	for n := 0; ; n++ {
		if _, err := b.Transaction(n + 1); err != nil {
			return n
		}
	}
}

// stillWorks: a database takes transactions, and has them behind a crash.
func stillWorks(t *testing.T, d *disk.Disk, b *daybook.DB) {
	t.Helper()
	n := countOf(t, b)
	x := does(3, create("works", kv()...), insert("works", num(1), txt("x")))
	commits(t, b, x, n+1)
	fine(t, "P19: Checkpoint", b.Checkpoint())
	commits(t, b, does(4, update("works", num(1), txt("y"))), n+2)
	d.Crash(nil)
	b = opened(t, d)
	if m := countOf(t, b); m != n+2 {
		t.Fatalf("P20: %d transactions, want %d", m, n+2)
	}
	if got, err := b.Get("works", num(1)); err != nil || got[1].S != "y" {
		t.Fatalf("P20: the row is %v, %v", got, err)
	}
}

func TestNoDatabase(t *testing.T) {
	for what, d := range stood(t) {
		if strings.HasPrefix(what, "a database") {
			continue
		}
		writes, syncs := d.Writes(), d.Syncs()
		b, err := daybook.Open(d)
		wants(t, "P13: Open of "+what, err, api.ErrForm, "")
		if b != nil || d.Writes() != writes || d.Syncs() != syncs {
			t.Errorf("P1: Open of %s has changed something, or told something", what)
		}
	}
}

func TestOpenDeadDisk(t *testing.T) {
	d, _ := made(t, 640, long()...)
	steps := 0
	for ; ; steps++ {
		c := d.Copy()
		c.Die(steps)
		b, err := daybook.Open(c)
		if err == nil {
			is(t, "P13: Open", b, long())
			break
		}
		wants(t, "P13: Open of a disk that dies", err, api.ErrDisk, "")
		if b != nil {
			t.Error("P1: a database beside ErrDisk")
		}
		c.Crash(nil)
		is(t, "P20: behind an Open that died", opened(t, c), long())
	}
	if steps < 2 {
		t.Errorf("P13: Open asked the disk %d times", steps)
	}
}

// What is open when a database is opened anew was never done.
func TestOpenHasNoTransaction(t *testing.T) {
	d, b := made(t, 1000, short()...)
	fine(t, "P14: Begin", b.Begin(1))
	fine(t, "P15: Insert", b.Insert("t", row(num(77), txt("lost"))))
	b = opened(t, d)
	_, err := b.Commit()
	wants(t, "P13: Commit behind Open", err, api.ErrOver, "")
	wants(t, "P13: Abort behind Open", b.Abort(), api.ErrOver, "")
	wants(t, "P13: Insert behind Open", b.Insert("t", row(num(77), txt(""))), api.ErrOver, "")
	is(t, "P13: behind Open", b, short())
}

// What Open answers hangs on what is on the disk, not on whose disk it is; and two databases know nothing of each other.
func TestCopies(t *testing.T) {
	d, b := made(t, 1000, short()...)
	c := d.Copy()
	other := opened(t, c)
	commits(t, other, does(1, insert("t", num(1000), txt("there"))), 5)
	is(t, "P1: the disk that was copied", b, short())
	is(t, "P1: the copy", opened(t, c), short().with(does(1, insert("t", num(1000), txt("there")))))
}
