package daybook_test

import (
	"bytes"
	"fmt"
	"math"
	"math/rand"
	"slices"
	"testing"

	"daybook/api"
	"daybook/daybook"
)

// wrongDigests are such as are not right for a ledger, each next to one that is.
func wrongDigests(l ledger) []api.Digest {
	var all []api.Digest
	for _, g := range l.digests() {
		for at := range g.Hash {
			for bit := range 8 {
				x := g
				x.Hash[at] ^= 1 << bit
				all = append(all, x)
			}
		}
	}
	last := l.digest()
	for _, blocks := range []int{-1, -2, -l.closed(), l.closed() + 1, l.closed() + 2, 1 << 31, 1<<32 + l.closed(), -1<<32 + l.closed(), math.MaxInt, math.MinInt, math.MinInt + l.closed()} {
		if blocks < 0 || blocks > l.closed() {
			all = append(all, api.Digest{Blocks: blocks}, api.Digest{Blocks: blocks, Hash: last.Hash})
		}
	}
	for i, g := range l.digests() {
		other := l.digests()[(i+1)%len(l.digests())]
		if other.Hash != g.Hash {
			all = append(all, api.Digest{Blocks: g.Blocks, Hash: other.Hash})
		}
	}
	return all
}

// provesAll: each digest that is right is proved byte by byte, and leads to the last one.
func provesAll(t *testing.T, what string, b *daybook.DB, l ledger) {
	t.Helper()
	for _, old := range l.digests() {
		p, err := b.Prove(old)
		if err != nil || !bytes.Equal(p, l.proof(old.Blocks)) {
			t.Fatalf("P22: %s: Prove(%v) = %v, %v, want %v", what, old, p, err, l.proof(old.Blocks))
		}
		fine(t, "P22: "+what+": Extends", daybook.Extends(old, l.digest(), p))
	}
}

// refusesAll: no digest that is not right is proved.
func refusesAll(t *testing.T, what string, b *daybook.DB, l ledger) {
	t.Helper()
	for _, x := range wrongDigests(l) {
		p, err := b.Prove(x)
		wants(t, fmt.Sprintf("P22: %s: Prove(%v)", what, x), err, api.ErrDigest, "")
		if p != nil {
			t.Errorf("P1: %s: a proof beside ErrDigest", what)
		}
	}
}

func TestProve(t *testing.T) {
	for name, l := range ledgers() {
		for _, n := range []int{0, 1, 2, 3, 4, 5, 6, len(l)} {
			if n > len(l) {
				continue
			}
			_, b := made(t, 4000, l[:n]...)
			what := fmt.Sprintf("%s, %d transactions", name, n)
			provesAll(t, what, b, l[:n])
			refusesAll(t, what, b, l[:n])
		}
		if name != "wide" {
			throughout(t, l, func(t *testing.T, what string, b *daybook.DB) { provesAll(t, name+" "+what, b, l) })
		}
	}
}

// What an open transaction did is not in the chain: not even when its commit will close a block.
func TestProveWhileOpen(t *testing.T) {
	l := short()[:3]
	_, b := made(t, 1000, l[:2]...)
	fine(t, "P14: Begin", b.Begin(l[2].time))
	for _, a := range l[2].acts {
		fine(t, "P15: "+a.what, a.do(b))
		provesAll(t, "open", b, l[:2])
		refusesAll(t, "open", b, l[:2])
		_, err := b.Prove(l.digest())
		wants(t, "P22: Prove of what is to come", err, api.ErrDigest, "")
	}
	if n, err := b.Commit(); n != 3 || err != nil {
		t.Fatalf("P17: Commit = %d, %v", n, err)
	}
	provesAll(t, "committed", b, l)
}

// noProof: Extends answers ErrProof.
func noProof(t *testing.T, what string, old, to api.Digest, proof []byte) {
	t.Helper()
	if err := daybook.Extends(old, to, proof); err != error(api.ErrProof) {
		t.Errorf("P22: Extends(%v, %v, %d bytes), %s: %v, want ErrProof", old, to, len(proof), what, err)
	}
}

// From each block to each later one, and nothing that differs in one thing.
func TestExtends(t *testing.T) {
	l := times()
	for i, old := range l.digests() {
		for _, to := range l.digests()[i:] {
			proof := l[:3*to.Blocks].proof(old.Blocks)
			fine(t, "P22: Extends", daybook.Extends(old, to, proof))
			for n := range len(proof) {
				noProof(t, "cut off", old, to, proof[:n])
				noProof(t, "cut off ahead", old, to, proof[n+1:])
				for bit := range 8 {
					other := slices.Clone(proof)
					other[n] ^= 1 << bit
					noProof(t, "with a bit turned", old, to, other)
				}
			}
			for more := 1; more <= 2*api.HeaderSize; more++ {
				noProof(t, "with more bytes", old, to, append(slices.Clone(proof), make([]byte, more)...))
			}
			for _, wrong := range wrongDigests(l[:3*to.Blocks]) {
				if wrong.Blocks == old.Blocks {
					noProof(t, "from another hash", wrong, to, proof)
				}
				if wrong.Blocks == to.Blocks {
					noProof(t, "to another hash", old, wrong, proof)
				}
				if wrong.Blocks < 0 || wrong.Blocks > to.Blocks {
					noProof(t, "from another number", wrong, to, proof)
					noProof(t, "to another number", old, wrong, proof)
				}
			}
			if to.Blocks > old.Blocks {
				noProof(t, "back", to, old, proof)
				noProof(t, "back without a header", to, old, nil)
				noProof(t, "without a header", old, to, nil)
				noProof(t, "with the headers of the end alone", old, to, proof[api.HeaderSize:])
				noProof(t, "twice", old, to, append(slices.Clone(proof), proof...))
			}
		}
	}
}

// chained are headers from a digest on, made right by hand: each by its root.
func chained(from api.Digest, roots ...api.Hash) ([]byte, api.Digest) {
	var all []byte
	at := from
	for _, root := range roots {
		header := join([]byte{'B'}, number4(at.Blocks+1), at.Hash[:], root[:])
		at = api.Digest{Blocks: at.Blocks + 1, Hash: sumOf(header)}
		all = append(all, header...)
	}
	return all, at
}

// Each thing that Extends looks at, with all else made right for it: so what is refused is refused for that alone.
func TestExtendsOneThing(t *testing.T) {
	start := api.Digest{Blocks: 7, Hash: api.Hash{1, 2, 3, 4}}
	roots := []api.Hash{{9, 8, 7, 6}, {0, 0, 0, 0}, {255, 255, 255, 255}}
	proof, end := chained(start, roots...)
	fine(t, "P22: Extends", daybook.Extends(start, end, proof))
	resum := func(change func(header []byte), n int) ([]byte, api.Digest) {
		var all []byte
		at := start
		for i := range roots {
			header := join([]byte{'B'}, number4(start.Blocks+1+i), at.Hash[:], roots[i][:])
			if i == n {
				change(header)
			}
			at = api.Digest{Blocks: start.Blocks + 1 + i, Hash: sumOf(header)}
			all = append(all, header...)
		}
		return all, at
	}
	for n := range roots {
		for what, change := range map[string]func(h []byte){
			"a small b":                func(h []byte) { h[0] = 'b' },
			"a nought in its stead":    func(h []byte) { h[0] = 0 },
			"the number ahead":         func(h []byte) { h[4]-- },
			"the number behind":        func(h []byte) { h[4]++ },
			"a greater number":         func(h []byte) { h[1]++ },
			"a number of another byte": func(h []byte) { h[3]++ },
			"no number":                func(h []byte) { copy(h[1:], []byte{0, 0, 0, 0}) },
			"another hash ahead":       func(h []byte) { h[8]++ },
			"noughts as hash ahead":    func(h []byte) { copy(h[5:], []byte{0, 0, 0, 0}) },
		} {
			p, to := resum(change, n)
			noProof(t, fmt.Sprintf("header %d with %s", n, what), start, to, p)
		}
		p, to := resum(func(h []byte) { h[12]++ }, n)
		fine(t, "P22: Extends with another root", daybook.Extends(start, to, p))
	}
	// Bytes that are missing are not noughts, and none may be too many.
	for n := range len(roots) + 1 {
		proof, end := chained(start, make([]api.Hash, n)...)
		fine(t, "P22: Extends by noughts", daybook.Extends(start, end, proof))
		for k := 1; k <= min(len(proof), api.HeaderSize); k++ {
			noProof(t, "without the noughts at its end", start, end, proof[:len(proof)-k])
		}
		for k := 1; k <= api.HeaderSize; k++ {
			noProof(t, "with noughts behind it", start, end, append(slices.Clone(proof), make([]byte, k)...))
		}
	}
	// A hash that is met by bytes that are not laid out as a header (see P3: a + 1 and b - 33).
	other := slices.Clone(proof)
	other[0], other[1] = 'A', 33
	if sumOf(other[:13]) != sumOf(proof[:13]) {
		t.Fatal("P3: the sum of what was made by hand")
	}
	noProof(t, "with a header of one sum", start, end, other)
}

// No header at all leads from a digest to itself, and nowhere else.
func TestExtendsByNothing(t *testing.T) {
	some := api.Hash{1, 2, 3, 4}
	for _, blocks := range []int{0, 1, 2, 1<<32 - 1, 1 << 32, 1<<32 + 1, math.MaxInt - 1, math.MaxInt} {
		for _, hash := range []api.Hash{{}, some, {255, 255, 255, 255}} {
			g := api.Digest{Blocks: blocks, Hash: hash}
			for _, proof := range [][]byte{nil, {}} {
				if blocks == 0 && hash != (api.Hash{}) {
					noProof(t, "of no block with a hash", g, g, proof)
					continue
				}
				fine(t, "P22: Extends from one to itself", daybook.Extends(g, g, proof))
				other := g
				other.Hash[2]++
				noProof(t, "to another hash", g, other, proof)
				noProof(t, "from another hash", other, g, proof)
			}
			noProof(t, "with a byte", g, g, []byte{0})
			noProof(t, "with a header", g, g, make([]byte, api.HeaderSize))
		}
	}
	for _, blocks := range []int{-1, -2, math.MinInt, math.MinInt + 1} {
		g := api.Digest{Blocks: blocks}
		noProof(t, "of a number below 0", g, g, nil)
		noProof(t, "from a number below 0", g, api.Digest{}, nil)
		noProof(t, "from a number below 0", g, api.Digest{}, make([]byte, api.HeaderSize))
		noProof(t, "from a number below 0", g, api.Digest{Blocks: math.MaxInt}, nil)
		noProof(t, "to a number below 0", api.Digest{}, g, nil)
		noProof(t, "to a number below 0", api.Digest{Blocks: math.MaxInt}, g, nil)
	}
}

// Numbers as great as they can be: none wraps, neither that of a block in four bytes nor that of the bytes of a proof.
func TestExtendsGreatNumbers(t *testing.T) {
	root := api.Hash{5, 6, 7, 8}
	for _, blocks := range []int{0, 254, 255, 256, 1<<16 - 1, 1<<31 - 1, 1<<32 - 3, 1<<32 - 2} {
		from := api.Digest{Blocks: blocks}
		proof, to := chained(from, root)
		fine(t, fmt.Sprintf("P22: Extends from %d", blocks), daybook.Extends(from, to, proof))
	}
	for _, blocks := range []int{1<<32 - 1, 1 << 32, 1<<32 + 6, 1<<33 - 1, 1<<40 + 2, 1<<62 - 1, math.MaxInt - 1} {
		from := api.Digest{Blocks: blocks, Hash: api.Hash{1}}
		proof, to := chained(from, root)
		noProof(t, "with a number that has no room in four bytes", from, to, proof)
	}
	proof, _ := chained(api.Digest{}, root, root)
	for _, n := range []int{math.MaxInt, math.MaxInt / api.HeaderSize, math.MaxInt/api.HeaderSize + 1, 1 << 60, 1 << 32, 1<<32 + 2, 1<<64/api.HeaderSize + 1} {
		to := api.Digest{Blocks: n, Hash: sumOf(proof[13:])}
		for k := range len(proof) + 1 {
			noProof(t, "with too few bytes", api.Digest{}, to, proof[:k])
		}
	}
	noProof(t, "over all numbers", api.Digest{Blocks: math.MinInt}, api.Digest{Blocks: math.MaxInt}, nil)
	noProof(t, "over all numbers", api.Digest{Blocks: math.MaxInt}, api.Digest{Blocks: math.MinInt}, nil)
}

// Any bytes: what leads anywhere is what the document says does.
func TestExtendsAnything(t *testing.T) {
	r := rand.New(rand.NewSource(5))
	l := times()
	right := 0
	for range 20000 {
		i := r.Intn(l.closed() + 1)
		j := i + r.Intn(l.closed()+1-i)
		old, to := l.digests()[i], l.digests()[j]
		proof := l[:3*j].proof(i)
		for range r.Intn(3) {
			switch r.Intn(7) {
			case 0:
				old.Blocks += r.Intn(3) - 1
			case 1:
				to.Blocks += r.Intn(3) - 1
			case 2:
				old.Hash[r.Intn(4)] ^= byte(r.Intn(2))
			case 3:
				to.Hash[r.Intn(4)] ^= byte(r.Intn(2))
			case 4:
				if len(proof) > 0 {
					proof[r.Intn(len(proof))] ^= byte(r.Intn(2))
				}
			case 5:
				proof = proof[:r.Intn(len(proof)+1)]
			case 6:
				proof = append(proof, make([]byte, r.Intn(14))...)
			}
		}
		want := extends(old, to, proof)
		if want {
			right++
		}
		if got := daybook.Extends(old, to, proof); (got == nil) != want || got != nil && got != error(api.ErrProof) {
			t.Fatalf("P22: Extends(%v, %v, %v) = %v, want %v", old, to, proof, got, want)
		}
	}
	if right < 1000 || right > 19000 {
		t.Errorf("P22: %d of 20000 proofs were right", right)
	}
}

// extends is what P22 says, word by word.
func extends(old, to api.Digest, proof []byte) bool {
	if old.Blocks < 0 || old.Blocks == 0 && old.Hash != (api.Hash{}) || to.Blocks < old.Blocks || len(proof) != 13*(to.Blocks-old.Blocks) {
		return false
	}
	hash := old.Hash
	for b := old.Blocks + 1; b <= to.Blocks; b++ {
		header := proof[13*(b-old.Blocks-1) : 13*(b-old.Blocks)]
		if !bytes.Equal(header[:9], join([]byte{'B'}, number4(b), hash[:])) {
			return false
		}
		hash = sumOf(header)
	}
	return hash == to.Hash
}
