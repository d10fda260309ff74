package daybook_test

import (
	"fmt"
	"math"
	"slices"
	"testing"

	"daybook/api"
	"daybook/daybook"
)

// times is a ledger whose transactions have one op each, and times of any number.
func times() ledger {
	l := ledger{does(math.MaxInt, create("t", kv()...))}
	for i, time := range []int{-1, 0, math.MinInt, 1, math.MaxInt, math.MaxInt - 1, math.MinInt + 1, 1 << 32, -1 << 32, 255, 256} {
		l = l.with(does(time, insert("t", num(i), txt(fmt.Sprint(i)))))
	}
	return l
}

// wide is a ledger whose transactions have 1 to MaxOps ops, and again MaxOps, with the greatest ops there are.
func wide() ledger {
	l := ledger{does(1, greatest(0))}
	n := 0
	for i := range api.MaxOps + 4 {
		x := deal{time: -i}
		for range min(1+i, api.MaxOps) {
			n++
			x.acts = append(x.acts, greatest(n))
		}
		l = l.with(x)
	}
	return l
}

// ledgers are some on which the chain is tried.
func ledgers() map[string]ledger {
	return map[string]ledger{"short": short(), "long": long(), "times": times(), "wide": wide()}
}

// digestIs: Digest tells what the document says of these transactions.
func digestIs(t *testing.T, what string, b *daybook.DB, l ledger) {
	t.Helper()
	if got, err := b.Digest(); err != nil || got != l.digest() {
		t.Fatalf("P21: %s: Digest behind %d transactions = %v, %v, want %v", what, len(l), got, err, l.digest())
	}
}

// Behind each transaction, from none on, and behind all that changes nothing.
func TestDigest(t *testing.T) {
	for name, l := range ledgers() {
		d, b := made(t, 4000)
		for n := range len(l) + 1 {
			if n > 0 {
				commits(t, b, l[n-1], n)
			}
			digestIs(t, name, b, l[:n])
			digestIs(t, name+" behind Open", opened(t, d.Copy()), l[:n])
			fine(t, "P14: Begin", b.Begin(n))
			digestIs(t, name+" with a transaction open", b, l[:n])
			if n > 0 {
				fine(t, "P14: Create", b.Create("more", kv()))
				digestIs(t, name+" with an op", b, l[:n])
			}
			fine(t, "P17: Abort", b.Abort())
			digestIs(t, name+" behind Abort", b, l[:n])
			switch n % 4 {
			case 1:
				fine(t, "P19: Checkpoint", b.Checkpoint())
				digestIs(t, name+" behind a checkpoint", b, l[:n])
			case 2:
				d.Crash(nil)
				b = opened(t, d)
				digestIs(t, name+" behind a crash", b, l[:n])
			}
		}
	}
}

// The digest of two small databases, worked out by hand from the document's words, byte by byte.
func TestDigestByHand(t *testing.T) {
	l := ledger{does(7, create("t", kv()...), insert("t", num(5), txt("x"))), does(8, update("t", num(5), txt("y")), remove("t", num(5)))}
	_, b := made(t, 1000, l...)
	if got, err := b.Digest(); err != nil || got != (api.Digest{}) {
		t.Errorf("P21: Digest behind two transactions = %v, %v", got, err)
	}
	commits(t, b, does(-1, insert("t", num(1), txt(""))), 3)
	first := []byte("\x01\x01t\x02\x01k\x01\x01v\x02")
	second := []byte("\x02\x01t\x02\x01\x00\x00\x00\x00\x00\x00\x00\x05\x02\x01x")
	third := []byte("\x03\x01t\x02\x01\x00\x00\x00\x00\x00\x00\x00\x05\x02\x01y")
	fourth := []byte("\x04\x01t\x01\x00\x00\x00\x00\x00\x00\x00\x05")
	fifth := []byte("\x02\x01t\x02\x01\x00\x00\x00\x00\x00\x00\x00\x01\x02\x00")
	leaf := func(text []byte) []byte { h := sumOf(join([]byte{0}, text)); return h[:] }
	node := func(x, y []byte) []byte { h := sumOf(join([]byte{1}, x, y)); return h[:] }
	one := join([]byte{0, 0, 0, 1, 0, 0, 0, 0, 0, 0, 0, 7, 2}, node(leaf(first), leaf(second)))
	two := join([]byte{0, 0, 0, 2, 0, 0, 0, 0, 0, 0, 0, 8, 2}, node(leaf(third), leaf(fourth)))
	three := join([]byte{0, 0, 0, 3, 255, 255, 255, 255, 255, 255, 255, 255, 1}, leaf(fifth))
	header := join([]byte{'B', 0, 0, 0, 1, 0, 0, 0, 0}, node(node(leaf(one), leaf(two)), leaf(three)))
	if len(one) != api.EntrySize || len(three) != api.EntrySize || len(header) != api.HeaderSize {
		t.Fatal("P21: the sizes of an entry and a header")
	}
	want := api.Digest{Blocks: 1, Hash: sumOf(header)}
	if got, err := b.Digest(); err != nil || got != want {
		t.Errorf("P21: Digest behind three transactions = %v, %v, want %v", got, err, want)
	}
	if p, err := b.Prove(api.Digest{}); err != nil || string(p) != string(header) {
		t.Errorf("P22: Prove = %v, %v, want %v", p, err, header)
	}
}

// A transaction without an op is none, and one that is aborted or finds no room is none.
func TestDigestOfNothing(t *testing.T) {
	_, b := made(t, 1000, short()[:3]...)
	for i := range 5 {
		fine(t, "P14: Begin", b.Begin(i))
		if n, err := b.Commit(); n != 0 || err != nil {
			t.Fatalf("P17: Commit = %d, %v", n, err)
		}
		digestIs(t, "behind a transaction without an op", b, short()[:3])
	}
	d, b := made(t, 64)
	var l ledger
	for i := 0; ; i++ {
		x := does(i, smallest(i))
		if _, err := try(b, x); err != nil {
			wants(t, "P17: what has no room", err, api.ErrFull, "")
			break
		}
		l = l.with(x)
	}
	digestIs(t, "of a full database", b, l)
	digestIs(t, "of a full database", opened(t, d), l)
}

// What a transaction is decides, and when it was; not how it came to the disk.
func TestDigestHangsOnTransactions(t *testing.T) {
	_, b := made(t, 1000, short()[:3]...)
	_, c := made(t, 640, short()[:3]...)
	x, _ := b.Digest()
	y, _ := c.Digest()
	if x != y {
		t.Errorf("P21: %v and %v are digests of the same transactions", x, y)
	}
	seen := []api.Digest{x}
	for n := range 3 {
		for _, change := range []func(x *deal){
			func(x *deal) { x.time++ },
			func(x *deal) { x.acts = append(slices.Clone(x.acts), create("more", kv()...)) },
			func(x *deal) { x.acts = x.acts[:len(x.acts)-1] },
		} {
			l := short()[:3]
			change(&l[n])
			if n < 2 && len(l[n].acts) < len(short()[n].acts) {
				continue // what comes behind needs it
			}
			_, b := made(t, 1000, l...)
			g, err := b.Digest()
			fine(t, "P21: Digest", err)
			if slices.Contains(seen, g) {
				t.Errorf("P21: %v is the digest of unlike transactions", g)
			}
			seen = append(seen, g)
		}
	}
}
