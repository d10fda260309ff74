package chain_test

import (
	"bytes"
	"fmt"
	"math"
	"strings"
	"testing"

	"daybook/api"
	"daybook/chain"
	"daybook/payload"
	"daybook/sums"
)

// transactions are so many, each of a few ops.
func transactions(many int) []payload.Transaction {
	var all []payload.Transaction
	for i := range many {
		t := payload.Transaction{Time: -i}
		for op := range 1 + i%4 {
			t.Ops = append(t.Ops, payload.Op{Kind: payload.Delete, Table: "t", Row: []api.Value{{Type: api.Int, N: 10*i + op}}})
		}
		all = append(all, t)
	}
	return all
}

func TestClosed(t *testing.T) {
	for many, want := range []int{0, 0, 0, 1, 1, 1, 2, 2} {
		if got := chain.Closed(many); got != want {
			t.Errorf("P21: %d transactions close %d blocks", many, got)
		}
		c := chain.Of(transactions(many))
		if g := c.Digest(); g.Blocks != want || len(c) != want || (g.Hash == api.Hash{}) != (want == 0) {
			t.Errorf("P21: the digest of %d transactions is %v", many, g)
		}
	}
}

// What comes later does not change a block.
func TestBlocksStay(t *testing.T) {
	all := transactions(20)
	whole := chain.Of(all)
	for n := range len(all) + 1 {
		c := chain.Of(all[:n])
		if !whole.IsRight(c.Digest()) || !chain.MayBeRight(c.Digest(), len(all)) {
			t.Errorf("P22: the digest of %d transactions is not right for more", n)
		}
		if !chain.Leads(c.Digest(), whole.Digest(), whole.Behind(len(c))) {
			t.Errorf("P22: the digest of %d transactions does not lead to that of more", n)
		}
	}
}

func TestWrongDigests(t *testing.T) {
	c := chain.Of(transactions(7))
	for _, blocks := range []int{-1, 3, math.MinInt, math.MaxInt, 1 << 32, 1<<32 + 1} {
		g := api.Digest{Blocks: blocks, Hash: c.Digest().Hash}
		if c.IsRight(g) || chain.MayBeRight(g, 7) {
			t.Errorf("P22: %v is taken for right", g)
		}
	}
	for blocks := range 3 {
		g := api.Digest{Blocks: blocks, Hash: api.Hash{1, 2, 3, 4}}
		if c.IsRight(g) || chain.MayBeRight(g, 7) != (blocks > 0) {
			t.Errorf("P22: %v is taken for right", g)
		}
	}
}

// All that is shown is taken for what it is, and nothing is shown that is not there.
func TestAttest(t *testing.T) {
	all := transactions(11)
	c := chain.Of(all)
	for n := -1; n <= 13; n++ {
		for op := -1; op <= 5; op++ {
			e, err := c.Attest(n, op)
			there := n >= 1 && n <= 9 && op >= 0 && op < len(all[n-1].Ops)
			if (err == nil) != there || !there && (err != error(api.ErrArg) || e != nil) {
				t.Fatalf("P24: Attest(%d, %d) = %v, %v", n, op, e, err)
			}
			if !there {
				continue
			}
			text, ok := chain.Attested(e, c.Digest())
			if !ok || string(text) != all[n-1].Ops[op].Text() {
				t.Errorf("P24: Attested of %d, %d: %q, %v", n, op, text, ok)
			}
		}
	}
}

// Two chains that are the same have nothing that clashes; two with one sum have.
func TestClash(t *testing.T) {
	word := func(at int, s string) chain.Chain {
		all := transactions(9)
		all[at].Ops[0] = payload.Op{Kind: payload.Delete, Table: "t", Row: []api.Value{{Type: api.Text, S: s}}}
		return chain.Of(all)
	}
	for at := range 9 {
		c, d := word(at, "w2z"), word(at, "w3Y")
		if x, y, ok := chain.Clash(c, word(at, "w2z")); ok || x != nil || y != nil {
			t.Errorf("P25: the same clash: %q, %q", x, y)
		}
		x, y, ok := chain.Clash(c, d)
		if !ok || bytes.Equal(x, y) || sums.Sum(x) != sums.Sum(y) || !strings.HasSuffix(string(x), "w2z") || !strings.HasSuffix(string(y), "w3Y") {
			t.Errorf("P25: Clash = %q, %q, %v", x, y, ok)
		}
	}
}

// A proof is read with nothing behind it, and a part of one is not laid over the next.
func TestRoomBehindProofs(t *testing.T) {
	c := chain.Of(transactions(15))
	proof := c.Behind(0)
	whole := append(bytes.Clone(proof), proof...)
	before := fmt.Sprint(whole)
	if !chain.Leads(api.Digest{}, c.Digest(), whole[:len(proof)]) || chain.Leads(api.Digest{}, c.Digest(), whole[:len(proof)-1]) || chain.Leads(api.Digest{}, c.Digest(), whole) {
		t.Error("P22: what stands behind a proof was read")
	}
	e, _ := c.Attest(1, 0)
	evidence := append(bytes.Clone(e), proof...)
	op, ok := chain.Attested(evidence[:len(e)], c.Digest())
	if _, more := chain.Attested(evidence, c.Digest()); !ok || more {
		t.Error("P24: what stands behind evidence was read")
	}
	op = append(op, "behind"...)
	if fmt.Sprint(whole) != before || !bytes.Equal(evidence[:len(e)], e) {
		t.Errorf("P2: a proof was changed, by %q", op)
	}
}
