package daybook_test

import (
	"bytes"
	"fmt"
	"slices"
	"testing"

	"daybook/api"
	"daybook/daybook"
)

// roomy is a text with room behind it, and what that room has in all.
func roomy(text []byte) (list, whole []byte) {
	whole = append(slices.Clone(text), bytes.Repeat([]byte{0xa5}, 40)...)
	return whole[:len(text)], whole
}

// wipe changes an answer, and the room behind it.
func wipe(answer []byte) {
	for i := range answer[:cap(answer)] {
		answer[:cap(answer)][i] ^= 0x77
	}
}

// Proofs and evidence are only read, the room behind them too, and what is made of them is new.
func TestProofsAreOnlyRead(t *testing.T) {
	l := times()
	for _, old := range l.digests() {
		proof, whole := roomy(l.proof(old.Blocks))
		before := slices.Clone(whole)
		fine(t, "P22: Extends", daybook.Extends(old, l.digest(), proof))
		daybook.Extends(l.digest(), old, proof)
		if !bytes.Equal(whole, before) {
			t.Error("P2: Extends has changed a proof")
		}
	}
	for n := 1; n <= len(l); n++ {
		evidence, whole := roomy(l.evidence(n, 0))
		before := slices.Clone(whole)
		op, err := daybook.Attested(evidence, l.digest())
		fine(t, "P24: Attested", err)
		daybook.Attested(evidence, api.Digest{})
		if !bytes.Equal(whole, before) {
			t.Error("P2: Attested has changed evidence")
		}
		wipe(whole)
		if !bytes.Equal(op, l[n-1].acts[0].text()) {
			t.Error("P2: what Attested answers shares memory with evidence")
		}
		wipe(whole)
		wipe(op)
		if !bytes.Equal(whole, before) {
			t.Error("P2: evidence shares memory with what Attested answers")
		}
	}
}

// What Prove and Attest answer is the caller's: nothing that is told later hangs on it.
func TestProofsAreNew(t *testing.T) {
	l := times()
	for _, saved := range []bool{false, true} {
		_, b := made(t, 2000, l...)
		if saved {
			fine(t, "P19: Checkpoint", b.Checkpoint())
		}
		for range 3 {
			for _, g := range l.digests() {
				p, err := b.Prove(g)
				fine(t, "P22: Prove", err)
				wipe(p)
			}
			for n := 1; n <= len(l); n++ {
				e, err := b.Attest(n, 0)
				fine(t, "P24: Attest", err)
				wipe(e)
			}
			provesAll(t, "answers are changed", b, l)
			attestsAll(t, "answers are changed", b, l)
			is(t, "P2: answers are changed", b, l)
			fine(t, "P23: Verify", b.Verify(l.digest()))
		}
	}
}

// roomyList is a list of texts with room behind each, and behind the list.
func roomyList(texts [][]byte) (list [][]byte, wholes [][]byte) {
	for _, text := range texts {
		x, whole := roomy(text)
		list, wholes = append(list, x), append(wholes, whole)
	}
	all := append(slices.Clone(list), []byte("behind"), nil)
	return all[:len(list)], append(wholes, all[len(list)], nil)
}

// Payloads are only read, and the two texts of a clash are new, each in memory of its own.
func TestClashIsNew(t *testing.T) {
	l := ahead(2)
	all := append(inEntries(t, l), inHeader(t, l)...)
	all = append(all, inOps(t, l, 6, 4)...)
	for _, c := range append(all, clash{"none", l, l, nil, nil}) {
		p, wholeP := roomyList(c.p.payloads())
		q, wholeQ := roomyList(c.q.payloads())
		beforeP, beforeQ := fmt.Sprint(wholeP, p[:cap(p)][:len(p)+2]), fmt.Sprint(wholeQ, q[:cap(q)][:len(q)+2])
		unchanged := func() bool {
			return fmt.Sprint(wholeP, p[:cap(p)][:len(p)+2]) == beforeP && fmt.Sprint(wholeQ, q[:cap(q)][:len(q)+2]) == beforeQ
		}
		x, y, err := daybook.Clash(p, q)
		if (err == nil) != (c.x != nil) || !unchanged() {
			t.Errorf("P2: %s: Clash has changed payloads (%v)", c.what, err)
		}
		keep := slices.Clone(y)
		wipe(x)
		if !bytes.Equal(y, keep) {
			t.Errorf("P2: %s: the two texts of a clash share memory", c.what)
		}
		wipe(y)
		if !unchanged() {
			t.Errorf("P2: %s: a clash shares memory with payloads", c.what)
		}
		x, y, _ = daybook.Clash(p, q)
		for _, whole := range append(wholeP[:len(p)], wholeQ[:len(q)]...) {
			wipe(whole)
		}
		if !bytes.Equal(x, c.x) || !bytes.Equal(y, c.y) {
			t.Errorf("P2: %s: payloads share memory with a clash", c.what)
		}
	}
}

// Of nothing, and of what is not there.
func TestNilProofs(t *testing.T) {
	fine(t, "P22: Extends of nothing", daybook.Extends(api.Digest{}, api.Digest{}, nil))
	_, b := made(t, 64)
	p, err := b.Prove(api.Digest{})
	if err != nil || len(p) != 0 {
		t.Errorf("P22: Prove of nothing = %v, %v", p, err)
	}
	fine(t, "P23: Verify of nothing", b.Verify(api.Digest{}))
	if g, err := b.Digest(); err != nil || g != (api.Digest{}) {
		t.Errorf("P21: Digest of nothing = %v, %v", g, err)
	}
}
