package daybook_test

import (
	"bytes"
	"sync"
	"testing"

	"daybook/api"
	"daybook/daybook"
)

func TestWithoutOne(t *testing.T) {
	_, b := made(t, 1000)
	for range 2 {
		n, err := b.Commit()
		wants(t, "P17: Commit without a transaction", err, api.ErrOver, "")
		if n != 0 {
			t.Errorf("P1: %d beside ErrOver", n)
		}
		wants(t, "P17: Abort without a transaction", b.Abort(), api.ErrOver, "")
	}
	fine(t, "P14: Begin", b.Begin(1))
	fine(t, "P17: Abort", b.Abort())
	_, err := b.Commit()
	wants(t, "P17: Commit behind Abort", err, api.ErrOver, "")
}

// A transaction without an op has no number, and changes nothing.
func TestNothingToCommit(t *testing.T) {
	d, b := made(t, 1000, short()...)
	writes := d.Writes()
	for i := range 3 {
		fine(t, "P14: Begin", b.Begin(i))
		wants(t, "P15: an op that is wrong", b.Insert("t", nil), api.ErrRow, "t")
		if n, err := b.Commit(); n != 0 || err != nil {
			t.Errorf("P17: Commit without an op = %d, %v", n, err)
		}
		_, err := b.Commit()
		wants(t, "P17: Commit twice", err, api.ErrOver, "")
	}
	if d.Writes() != writes {
		t.Error("P17: a transaction without an op was written")
	}
	is(t, "P17: transactions without an op", b, short())
	commits(t, b, does(1, insert("t", num(1), txt(""))), 5)
}

// The numbers are 1, 2 and so on, also behind Open, behind checkpoints, and with aborted transactions between.
func TestNumbers(t *testing.T) {
	d, b := made(t, 4000, short()...)
	l := short()
	for i := range 60 {
		x := does(i, insert("t", num(1000+i), txt("x")))
		l = l.with(x)
		commits(t, b, x, len(l))
		if i%3 == 0 {
			fine(t, "P14: Begin", b.Begin(i))
			fine(t, "P15: Insert", b.Insert("t", row(num(2000+i), txt("gone"))))
			fine(t, "P17: Abort", b.Abort())
		}
		if i%5 == 0 {
			b = opened(t, d)
		}
		if i%7 == 0 {
			fine(t, "P19: Checkpoint", b.Checkpoint())
		}
	}
	is(t, "P17: numbers", b, l)
	is(t, "P17: numbers", opened(t, d), l)
}

// Commit is safe: whatever a crash does behind it, and with the old database going on behind a crash.
func TestCommitIsSafe(t *testing.T) {
	d, b := made(t, 1000)
	var l ledger
	for _, x := range long()[:30] {
		l = l.with(x)
		commits(t, b, x, len(l))
		if n := unsafe(d); n > 0 {
			t.Fatalf("P17: %d sectors are not safe behind Commit", n)
		}
		d.Crash(nil)
		is(t, "P20: behind Commit and a crash", opened(t, d.Copy()), l)
	}
	is(t, "P20: the database goes on", b, l)
}

// All that an aborted transaction did is undone: tables, rows, ops, and what would have been their history.
func TestAbort(t *testing.T) {
	d, b := made(t, 2000, short()...)
	acts := []act{
		create("v", kv()...), insert("v", num(1), txt("a")), update("v", num(1), txt("b")), remove("v", num(1)), insert("v", num(1), txt("c")), create("w", kv()...),
		update("t", num(5), txt("z")), update("t", num(5), txt("zz")), remove("t", num(5)), insert("t", num(5), txt("zzz")), remove("t", num(-6)), insert("t", num(7), txt("")),
		remove("u", txt("")), remove("u", txt("a\x00b")), insert("u", txt("")), insert("u", txt("q")),
	}
	for n := range len(acts) + 1 {
		fine(t, "P14: Begin", b.Begin(n))
		for _, a := range acts[:n] {
			fine(t, "P15: "+a.what, a.do(b))
		}
		fine(t, "P17: Abort", b.Abort())
		is(t, "P17: behind Abort", b, short())
	}
	commits(t, b, deal{8, acts}, 5) // so none of these ops was left
	is(t, "P17: behind Commit", b, short().with(deal{8, acts}))
	is(t, "P17: behind Commit and Open", opened(t, d), short().with(deal{8, acts}))
}

// Several goroutines ask one database: each call is whole, and of those that begin at once one does.
func TestTogether(t *testing.T) {
	d, b := made(t, 4000, does(1, create("t", kv()...)))
	const workers, rounds = 8, 15
	var wait sync.WaitGroup
	done := make([]ledger, workers)
	for i := range workers {
		wait.Go(func() {
			for r := range rounds {
				done[i] = append(done[i], mine(t, b, i*100+r)...)
				b.Scan("t")
				b.Get("t", num(i*100))
				b.History("t")
				b.Transaction(1 + r)
				b.Checkpoint()
				asksChain(t, b, 1+r)
			}
		})
	}
	wait.Wait()
	want := ledger{does(1, create("t", kv()...))}
	seen := map[string]deal{}
	for _, l := range done {
		for _, x := range l {
			seen[string(x.payload())] = x
		}
	}
	for n := 2; n <= len(seen)+1; n++ {
		p, err := b.Transaction(n)
		x, ok := seen[string(p)]
		if err != nil || !ok {
			t.Fatalf("P18: transaction %d of %d is %x, %v", n, len(seen), p, err)
		}
		want = append(want, x)
	}
	if len(seen) == 0 {
		t.Error("P14: nobody could begin")
	}
	is(t, "P17: together", b, want)
	is(t, "P17: together", opened(t, d), want)
	staysRight(t, "together", b, want)
}

// asksChain asks all methods of the chain while others commit: what was right stays right, and what is told goes together.
func asksChain(t *testing.T, b *daybook.DB, number int) {
	old, err := b.Digest()
	if err != nil {
		t.Errorf("P21: Digest: %v", err)
	}
	proof, err := b.Prove(old)
	headers, to := chained(old, lastBytes(proof)...)
	if err != nil || !bytes.Equal(headers, proof) || daybook.Extends(old, to, proof) != nil {
		t.Errorf("P22: Prove(%v) = %v, %v", old, proof, err)
	}
	if err := b.Verify(old); err != nil {
		t.Errorf("P23: Verify: %v", err)
	}
	e, err := b.Attest(number, 0)
	if (err == nil) != (number <= 3*old.Blocks) && err != nil {
		t.Errorf("P24: Attest(%d, 0) behind %d blocks: %v", number, old.Blocks, err)
	}
	if err == nil && !bytes.HasPrefix(e, number4(number)) {
		t.Errorf("P24: Attest(%d, 0) = %v", number, e)
	}
}

// lastBytes are the roots that headers tell.
func lastBytes(headers []byte) []api.Hash {
	var all []api.Hash
	for ; len(headers) >= api.HeaderSize; headers = headers[api.HeaderSize:] {
		all = append(all, api.Hash(headers[9:13]))
	}
	return all
}

// mine is what one goroutine commits: whoever has begun has the transaction for itself, if the others ask it only what changes nothing.
func mine(t *testing.T, b *daybook.DB, key int) []deal {
	x := does(key, insert("t", num(key), txt("x")), update("t", num(key), txt("y")))
	if b.Begin(x.time) != nil {
		return nil
	}
	for _, a := range x.acts {
		if err := a.do(b); err != nil {
			t.Errorf("P15: %s: %v", a.what, err)
		}
	}
	if n, err := b.Commit(); n < 2 || err != nil {
		t.Errorf("P17: Commit = %d, %v", n, err)
	}
	return []deal{x}
}
