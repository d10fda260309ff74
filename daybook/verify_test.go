package daybook_test

import (
	"fmt"
	"math/rand"
	"testing"

	"daybook/api"
	"daybook/daybook"
	"daybook/disk"
	"daybook/numbers"
	"daybook/tree"
	"daybook/wal"
)

// verifies: each digest that is right is told to be, and no other.
func verifies(t *testing.T, what string, b *daybook.DB, l ledger) {
	t.Helper()
	for _, g := range l.digests() {
		fine(t, fmt.Sprintf("P23: %s: Verify(%v)", what, g), b.Verify(g))
	}
	for _, g := range wrongDigests(l) {
		wants(t, fmt.Sprintf("P23: %s: Verify(%v)", what, g), b.Verify(g), api.ErrDigest, "")
	}
}

func TestVerify(t *testing.T) {
	for name, l := range ledgers() {
		for _, n := range []int{0, 1, 2, 3, 4, 5, 6, len(l)} {
			if n <= len(l) {
				_, b := made(t, 4000, l[:n]...)
				verifies(t, fmt.Sprintf("%s, %d transactions", name, n), b, l[:n])
			}
		}
		if name != "wide" {
			throughout(t, l, func(t *testing.T, what string, b *daybook.DB) {
				t.Helper()
				for _, g := range l.digests() {
					fine(t, "P23: "+name+" "+what+": Verify", b.Verify(g))
				}
				g := l.digest()
				g.Hash[0]++
				wants(t, "P23: "+name+" "+what+": Verify", b.Verify(g), api.ErrDigest, "")
			})
		}
	}
}

// Verify looks at what is committed: what the open transaction did is no fault, and stays as it is.
func TestVerifyWhileOpen(t *testing.T) {
	l := short()
	_, b := made(t, 1000, l...)
	fine(t, "P14: Begin", b.Begin(1))
	verifies(t, "open", b, l)
	acts := []act{create("v", kv()...), insert("v", num(1), txt("a")), update("t", num(5), txt("z")), remove("t", num(-6)), remove("t", num(5)), insert("t", num(5), txt("zz"))}
	for _, a := range acts {
		fine(t, "P15: "+a.what, a.do(b))
		verifies(t, "open, with "+a.what, b, l)
	}
	shows(t, "P16: behind Verify", b, "t", row(num(5), txt("zz")))
	l = l.with(deal{1, acts})
	if n, err := b.Commit(); n != len(l) || err != nil {
		t.Fatalf("P17: Commit = %d, %v", n, err)
	}
	is(t, "P23: behind Verify and Commit", b, l)
	verifies(t, "committed", b, l)
}

// Nothing is written by Verify, and by none of the others that only tell.
func TestChainWritesNothing(t *testing.T) {
	d, b := made(t, 1000, long()...)
	writes := d.Writes()
	for _, q := range append(questions(), wrongOfChain()...) {
		switch q.name {
		case "Begin", "Checkpoint":
			continue
		}
		q.ask(b)
	}
	if d.Writes() != writes {
		t.Errorf("P23: %d sectors were written by calls that only tell", d.Writes()-writes)
	}
}

// holds: what Verify answers of a disk on which somebody has written. If it finds all well then each call tells what the transactions make, of a database that is opened now, too.
func holds(t *testing.T, what string, d *disk.Disk, b *daybook.DB, l ledger) bool {
	t.Helper()
	for _, g := range []api.Digest{{}, l.digest()} {
		err := b.Verify(g)
		if kind, _ := api.Told(err); err != nil && (kind != api.ErrForm && kind != api.ErrDigest) {
			t.Fatalf("P23: %s: Verify: %v", what, err)
		}
		if err != nil {
			return false
		}
	}
	is(t, "P23: "+what+": a database that was found right", b, l)
	is(t, "P23: "+what+": a disk that was found right", opened(t, d.Copy()), l)
	return true
}

// Bytes are turned, sectors broken, wiped and laid over others while a database is open.
func TestVerifySpoiltWhileOpen(t *testing.T) {
	old, _, l := used(t)
	found := 0
	for i := range 120 {
		for _, how := range []string{"turned at the beginning", "turned", "turned at the end", "broken", "wiped", "under another"} {
			d := old.Copy()
			b := opened(t, d)
			switch how {
			case "turned at the beginning":
				d.Spoil(i, 0, 1)
			case "turned":
				d.Spoil(i, 20, 0x80)
			case "turned at the end":
				d.Spoil(i, 229, 0xff)
			case "broken":
				breakSector(d, i)
			case "wiped":
				d.Write(i, "")
			case "under another":
				text, _ := d.Read((i + 7) % 120)
				d.Write(i, text)
			}
			if !holds(t, fmt.Sprintf("sector %d %s", i, how), d, b, l) {
				found++
			}
		}
	}
	if found < 100 {
		t.Errorf("P23: what was written was found out %d times", found)
	}
}

// ages are disks of one database: as it was behind some of its transactions.
func ages(t *testing.T, l ledger) []*disk.Disk {
	t.Helper()
	d, b := made(t, 500)
	all := []*disk.Disk{d.Copy()}
	for i, x := range l {
		commits(t, b, x, i+1)
		if i%8 == 7 {
			all = append(all, d.Copy())
		}
		if i == 12 {
			fine(t, "P19: Checkpoint", b.Checkpoint())
			all = append(all, d.Copy())
		}
	}
	return append(all, d)
}

func lay(from, to *disk.Disk, first, behind int) {
	for i := first; i < behind; i++ {
		text, _ := from.Read(i)
		to.Write(i, text)
	}
	to.Sync()
}

// Sectors of long ago are laid over those of now: one, or many at once, up to all of them.
func TestVerifySectorsOfLongAgo(t *testing.T) {
	l := long()[:30]
	all := ages(t, l)
	now := all[len(all)-1]
	found := 0
	for age, old := range all[:len(all)-1] {
		for i := range 120 {
			for _, many := range []int{1, 2, 5, 17, 19, 40, 500} {
				if many > 1 && i > 20 {
					continue
				}
				d := now.Copy()
				b := opened(t, d)
				lay(old, d, i, min(i+many, d.Sectors()))
				what := fmt.Sprintf("age %d: %d sectors from %d on", age, many, i)
				if !holds(t, what+" while open", d, b, l) {
					found++
				}
				anew, err := daybook.Open(d)
				if err != nil {
					wants(t, "P13: "+what, err, api.ErrForm, "")
					continue
				}
				n := countOf(t, anew)
				is(t, "P23: "+what, anew, l[:n])
				if err := anew.Verify(l.digest()); (err == nil) != (n/3 == len(l)/3) {
					t.Fatalf("P23: %s: Verify of a database of %d transactions: %v", what, n, err)
				}
			}
		}
	}
	if found < 100 {
		t.Errorf("P23: what was written was found out %d times", found)
	}
}

// The whole disk of another database is laid over that of an open one, of as many transactions as it has: it tells of its own, or is found out.
func TestVerifyAnotherDisk(t *testing.T) {
	l := times()
	other := times()
	other[4].acts = []act{insert("t", num(3), txt("other"))}
	for _, saved := range []bool{false, true} {
		d, b := made(t, 1000, l...)
		e, c := made(t, 1000, other...)
		if saved {
			fine(t, "P19: Checkpoint", b.Checkpoint())
			fine(t, "P19: Checkpoint", c.Checkpoint())
		}
		lay(e, d, 0, d.Sectors())
		for _, g := range append(l.digests(), other.digests()...) {
			if b.Verify(g) == nil {
				t.Errorf("P23: Verify(%v) finds nothing, though what is on the disk makes other rows", g)
			}
		}
		b = opened(t, d)
		verifies(t, "another disk", b, other)
	}
}

// forgeTree lays a payload of at most 100 bytes into the tree of a database, in another one's stead.
func forgeTree(t *testing.T, d *disk.Disk, number int, payload []byte) {
	t.Helper()
	x, err := tree.Open(d, treeAt, d.Sectors()-treeAt)
	fine(t, "P9: Open", err)
	fine(t, "P10: Put", x.Put(append(numbers.Append(nil, uint64(number), 4), 0), payload))
	fine(t, "P11: Save", x.Save())
}

// forgeLog makes a database's log anew, with these payloads, the first with this number.
func forgeLog(t *testing.T, d *disk.Disk, first int, payloads ...[]byte) {
	t.Helper()
	fine(t, "P5: Create", wal.Create(d, 0, logSectors))
	l, err := wal.Open(d, 0, logSectors)
	fine(t, "P6: Open", err)
	for i, p := range payloads {
		fine(t, "P7: Append", l.Append(append(numbers.Append(nil, uint64(first+i), 4), p...)))
	}
	fine(t, "P7: Sync", l.Sync())
}

// words is a database of seven transactions, each but the first with a row: the number of its transaction and a word.
func words(list ...string) ledger {
	l := ledger{does(1, create("t", kv()...))}
	for i, w := range list {
		l = l.with(does(i+2, insert("t", num(i+2), txt(w))))
	}
	return l
}

// forged are all ways to lay other payloads into the disk of a ledger of words: into its tree, into its log, into one of both.
func forged(t *testing.T, l, other ledger) map[string]func() (*disk.Disk, *daybook.DB) {
	return map[string]func() (*disk.Disk, *daybook.DB){
		"tree": func() (*disk.Disk, *daybook.DB) {
			d, b := made(t, 640, l...)
			fine(t, "P19: Checkpoint", b.Checkpoint())
			for i, x := range other {
				forgeTree(t, d, i+1, x.payload())
			}
			return d, b
		},
		"log": func() (*disk.Disk, *daybook.DB) {
			d, b := made(t, 640, l...)
			forgeLog(t, d, 1, other.payloads()...)
			return d, b
		},
		"both": func() (*disk.Disk, *daybook.DB) {
			d, b := made(t, 640, l[:4]...)
			fine(t, "P19: Checkpoint", b.Checkpoint())
			for i, x := range l[4:] {
				commits(t, b, x, 5+i)
			}
			for i, x := range other[:4] {
				forgeTree(t, d, i+1, x.payload())
			}
			forgeLog(t, d, 5, other[4:].payloads()...)
			return d, b
		},
	}
}

// Somebody lays other transactions down, right in all but that they are others: a digest of their block is not right any more, and while the database is open nothing is.
func TestVerifyForged(t *testing.T) {
	l := words("one", "two", "three", "four", "five", "six", "seven")
	for n := 2; n <= len(l); n++ {
		other := l.with()
		other[n-1] = does(n, insert("t", num(n), txt("forged")))
		for what, forge := range forged(t, l, other) {
			what = fmt.Sprintf("transaction %d forged in the %s", n, what)
			d, b := forge()
			for _, g := range append(l.digests(), other.digests()...) {
				if b.Verify(g) == nil {
					t.Errorf("P23: %s: Verify(%v) of an open database finds nothing", what, g)
				}
			}
			b = opened(t, d)
			is(t, "P23: "+what, b, other)
			verifies(t, what, b, other)
			for _, g := range l.digests() {
				same := 3*g.Blocks < n
				_, err := b.Prove(g)
				if (b.Verify(g) == nil) != same || (err == nil) != same {
					t.Errorf("P23: %s: Verify and Prove of the old digest %v: %v, %v", what, g, b.Verify(g), err)
				}
			}
		}
	}
}

// Two words with one sum: the digest stays right, but the rows that an open database tells are not those of what is on the disk; and Clash finds the two.
func TestVerifyForgedWithOneSum(t *testing.T) {
	l := words("one", "w2z", "three", "four", "five", "six", "seven")
	other := words("one", "w3Y", "three", "four", "five", "six", "seven")
	if l.digest() != other.digest() {
		t.Fatal("P3: the sums of what was made by hand")
	}
	for what, forge := range forged(t, l, other) {
		d, b := forge()
		for _, g := range l.digests() {
			if b.Verify(g) == nil {
				t.Errorf("P23: %s: Verify(%v) of an open database finds nothing", what, g)
			}
		}
		b = opened(t, d)
		verifies(t, what, b, l)
		is(t, "P23: "+what, b, other)
		clashes(t, what, l[:6].payloads(), told(t, b, 6), "\x00"+string(l[2].acts[0].text()), "\x00"+string(other[2].acts[0].text()))
	}
}

// told are the payloads of the first transactions.
func told(t *testing.T, b *daybook.DB, many int) [][]byte {
	t.Helper()
	var all [][]byte
	for n := range many {
		p, err := b.Transaction(n + 1)
		fine(t, "P18: Transaction", err)
		all = append(all, p)
	}
	return all
}

// Somebody lays down what no database can have had: transactions that cannot come behind each other.
func TestVerifyForgedOps(t *testing.T) {
	l := words("one", "two", "three", "four", "five", "six", "seven")
	for _, a := range []act{insert("nosuch", num(1), txt("")), insert("t", num(2), txt("")), remove("t", num(99)), create("t", kv()...)} {
		other := l.with()
		other[6] = does(7, a)
		for what, forge := range forged(t, l, other) {
			d, b := forge()
			for _, g := range l.digests() {
				err := b.Verify(g)
				if kind, _ := api.Told(err); kind != api.ErrDigest && kind != api.ErrForm {
					t.Errorf("P23: %s: Verify(%v) where a transaction cannot be: %v", what, g, err)
				}
			}
			_, err := daybook.Open(d)
			wants(t, "P13: Open where a transaction cannot be", err, api.ErrForm, "")
		}
	}
}

// Much is written at once, while a database is open.
func TestVerifySpoiltAtRandom(t *testing.T) {
	old, _, l := used(t)
	all := ages(t, l)
	for seed := range int64(300) {
		r := rand.New(rand.NewSource(seed))
		d := old.Copy()
		b := opened(t, d)
		for range 1 + r.Intn(8) {
			i := r.Intn(120)
			switch r.Intn(5) {
			case 0:
				d.Spoil(i, r.Intn(disk.Size), 1+r.Intn(255))
			case 1:
				breakSector(d, i)
			case 2:
				text, _ := d.Read(r.Intn(120))
				d.Write(i, text)
			case 3:
				lay(all[r.Intn(len(all))], d, i, i+r.Intn(20))
			default:
				d.Write(i, "")
			}
		}
		holds(t, fmt.Sprintf("seed %d", seed), d, b, l)
	}
}
