package daybook_test

import (
	"fmt"
	"math/rand"
	"testing"

	"daybook/api"
	"daybook/daybook"
	"daybook/disk"
)

// used is a disk with a database that has much in its tree and something in its log.
func used(t *testing.T) (*disk.Disk, *daybook.DB, ledger) {
	t.Helper()
	l := long()[:30]
	d, b := made(t, 500, l[:25]...)
	fine(t, "P19: Checkpoint", b.Checkpoint())
	for i, x := range l[25:] {
		commits(t, b, x, 26+i)
	}
	return d, b, l
}

// bears: whatever stands on the disk, a database tells what its transactions made, or ErrForm. They are all that were committed; or (least is less) a beginning of them, where so much was written over that nothing tells of the others.
func bears(t *testing.T, what string, d *disk.Disk, l ledger, least int) {
	t.Helper()
	b, err := daybook.Open(d)
	if err != nil {
		wants(t, "P13: "+what+": Open", err, api.ErrForm, "")
		if b != nil {
			t.Errorf("P1: %s: a database beside ErrForm", what)
		}
		return
	}
	n := countOf(t, b)
	if n > len(l) || n < least {
		t.Fatalf("P13: %s: %d transactions, of %d", what, n, len(l))
	}
	is(t, "P13: "+what, b, l[:n])
	for _, g := range []api.Digest{l.digests()[n/3], l.digest()} {
		if err := b.Verify(g); (err == nil) != (3*g.Blocks <= n) {
			t.Fatalf("P23: %s: Verify(%v) of a database of %d transactions: %v", what, g, n, err)
		}
	}
	for _, q := range questions() {
		answersWell(t, what, b, q)
	}
	b.Abort()
	for _, x := range []deal{does(1, create("last", kv()...)), does(2, insert("last", num(1), txt(""))), does(3, remove("last", num(1)))} {
		if _, err := try(b, x); err != nil {
			b.Abort()
		}
		b.Checkpoint()
	}
}

// answersWell: a call answers no error that says that the disk has failed, and nothing beside an error.
func answersWell(t *testing.T, what string, b *daybook.DB, q question) {
	t.Helper()
	err, zero := q.ask(b)
	kind, _ := api.Told(err)
	if err != nil && (kind == 0 || kind == api.ErrDisk || kind == api.ErrPlace || !zero) {
		t.Errorf("P13: %s: %s: %v", what, q.name, err)
	}
}

func TestTurnedBytes(t *testing.T) {
	d, _, l := used(t)
	forms := 0
	for i := range 120 {
		for _, at := range []int{0, 1, 2, 5, 14, 20, 30, 60, 227, 255} {
			for _, by := range []int{1, 0xff} {
				c := d.Copy()
				c.Spoil(i, at, by)
				if _, err := daybook.Open(c); err != nil {
					forms++
					e := c.Copy()
					e.Spoil(i, at, by)
					is(t, "P1: an Open that answered ErrForm has changed something", opened(t, e), l)
				}
				bears(t, fmt.Sprintf("sector %d, byte %d turned by %d", i, at, by), c, l, len(l))
			}
		}
	}
	if forms < 100 {
		t.Errorf("P13: ErrForm was answered %d times", forms)
	}
}

func TestBrokenSectors(t *testing.T) {
	d, _, l := used(t)
	for i := range d.Sectors() {
		c := d.Copy()
		breakSector(c, i)
		bears(t, fmt.Sprintf("sector %d broken", i), c, l, len(l))
	}
}

func TestSectorsLaidOverOthers(t *testing.T) {
	d, _, l := used(t)
	for i := range 120 {
		for j := range 120 {
			if (i*7+j)%11 != 0 && i > 5 {
				continue
			}
			c := d.Copy()
			text, _ := c.Read(j)
			c.Write(i, text)
			c.Sync()
			bears(t, fmt.Sprintf("sector %d laid over %d", j, i), c, l, len(l))
		}
	}
}

// A database that is open answers what is right, or ErrForm, while somebody writes on its disk.
func TestSpoiltWhileOpen(t *testing.T) {
	for i := range 120 {
		for _, how := range []string{"turned", "broken", "noughts", "another"} {
			d, b, l := used(t)
			fine(t, "P14: Begin", b.Begin(1))
			fine(t, "P15: Insert", b.Insert("t", row(num(-5000), txt("x"))))
			switch how {
			case "turned":
				d.Spoil(i, 14, 1)
			case "broken":
				breakSector(d, i)
			case "noughts":
				d.Write(i, "")
			case "another":
				text, _ := d.Read(i + 1)
				d.Write(i, text)
			}
			what := fmt.Sprintf("sector %d %s while it is open", i, how)
			bears(t, what, d.Copy(), l, len(l))
			if rows, err := b.Scan("t"); err == nil && len(rows) != len(l.find("t").rows)+1 {
				t.Fatalf("P16: %s: Scan tells %d rows", what, len(rows))
			}
			for n, x := range l {
				if p, err := b.Transaction(n + 1); err == nil && string(p) != string(x.payload()) {
					t.Fatalf("P18: %s: Transaction(%d) = %x", what, n+1, p)
				} else if err != nil {
					wants(t, "P18: "+what+": Transaction", err, api.ErrForm, "")
				}
			}
			for _, q := range questions() {
				answersWell(t, what, b, q)
			}
			b.Abort()
			for _, q := range questions() {
				answersWell(t, what, b, q)
			}
		}
	}
}

// Where a call answers ErrForm nothing has changed: a transaction that could not be committed is still open.
func TestCommitOfSpoilt(t *testing.T) {
	seen := 0
	for i := range 120 {
		d, b, l := used(t)
		for len(l) < 48 {
			x := does(1, insert("t", num(3000+len(l)), txt("x")))
			if len(l) == 34 {
				d.Spoil(i, 30, 1)
			}
			if err := b.Begin(x.time); err != nil {
				wants(t, "P13: Begin", err, api.ErrForm, "")
				break
			}
			if err := x.acts[0].do(b); err != nil {
				wants(t, "P13: Insert", err, api.ErrForm, "")
				break
			}
			n, err := b.Commit()
			if err != nil {
				seen++
				wants(t, "P13: Commit", err, api.ErrForm, "")
				wants(t, "P1: Begin behind ErrForm", b.Begin(1), api.ErrBegun, "")
				d.Spoil(i, 30, 1)
				n, err = b.Commit()
			}
			l = l.with(x)
			if err != nil || n != len(l) {
				t.Fatalf("P17: Commit behind ErrForm = %d, %v", n, err)
			}
		}
	}
	if seen == 0 {
		t.Error("P13: no Commit met what was spoilt")
	}
}

// A database that knows less than the disk has, or more, is not the one that is there: it answers ErrForm, and what is there stays.
func TestTwoAtOnce(t *testing.T) {
	d, old := made(t, 640, short()...)
	b := opened(t, d)
	more := does(1, insert("t", num(1), txt("new")))
	fine(t, "P14: Begin", old.Begin(2))
	fine(t, "P15: Insert", old.Insert("t", row(num(2), txt("old"))))
	commits(t, b, more, 5)
	n, err := old.Commit()
	wants(t, "P13: Commit of a database that is not there any more", err, api.ErrForm, "")
	if n != 0 {
		t.Errorf("P1: %d beside ErrForm", n)
	}
	fine(t, "P17: Abort", old.Abort())
	for _, q := range questions() {
		if err, _ := q.ask(old); err == nil {
			t.Errorf("P13: %s of a database that is not there any more is answered", q.name)
		}
	}
	is(t, "P13: the other one", opened(t, d), short().with(more))
	fine(t, "P13: Format", daybook.Format(d))
	wants(t, "P13: Begin behind Format", b.Begin(1), api.ErrForm, "")
	wants(t, "P13: Checkpoint behind Format", b.Checkpoint(), api.ErrForm, "")
	is(t, "P13: behind Format", opened(t, d), nil)
}

// Much is spoilt at once.
func TestSpoiltAtRandom(t *testing.T) {
	d, _, l := used(t)
	for seed := range int64(400) {
		r := rand.New(rand.NewSource(seed))
		c := d.Copy()
		for range 1 + r.Intn(6) {
			i := r.Intn(120)
			switch r.Intn(4) {
			case 0:
				c.Spoil(i, r.Intn(disk.Size), 1+r.Intn(255))
			case 1:
				breakSector(c, i)
			case 2:
				text, _ := c.Read(r.Intn(120))
				c.Write(i, text)
			default:
				c.Write(i, "")
			}
		}
		c.Sync()
		bears(t, fmt.Sprintf("seed %d", seed), c, l, 0)
	}
}
