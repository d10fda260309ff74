package daybook_test

import (
	"bytes"
	"fmt"
	"math"
	"math/rand"
	"slices"
	"testing"

	"daybook/api"
	"daybook/daybook"
)

// attestsAll: each op of each transaction of a closed block is shown byte by byte, and taken for what it is.
func attestsAll(t *testing.T, what string, b *daybook.DB, l ledger) {
	t.Helper()
	for n := 1; n <= 3*l.closed(); n++ {
		for op, a := range l[n-1].acts {
			e, err := b.Attest(n, op)
			if want := l.evidence(n, op); err != nil || !bytes.Equal(e, want) {
				t.Fatalf("P24: %s: Attest(%d, %d) = %v, %v, want %v", what, n, op, e, err, want)
			}
			got, err := daybook.Attested(e, l.digest())
			if err != nil || !bytes.Equal(got, a.text()) {
				t.Fatalf("P24: %s: Attested of %d, %d = %q, %v, want %q", what, n, op, got, err, a.text())
			}
		}
	}
}

// attestsNoMore: what is not there, or is in no closed block, is not shown.
func attestsNoMore(t *testing.T, what string, b *daybook.DB, l ledger) {
	t.Helper()
	refuse := func(n, op int) {
		t.Helper()
		e, err := b.Attest(n, op)
		wants(t, fmt.Sprintf("P24: %s: Attest(%d, %d)", what, n, op), err, api.ErrArg, "")
		if e != nil {
			t.Errorf("P1: %s: evidence beside ErrArg", what)
		}
	}
	for n := 1; n <= 3*l.closed(); n++ {
		many := len(l[n-1].acts)
		for _, op := range []int{-1, -2, math.MinInt, many, many + 1, 16, 17, 255, 256, 256 + many - 1, 1 << 32, -1 << 32, math.MaxInt} {
			refuse(n, op)
		}
	}
	for _, op := range []int{0, 1, -1} {
		for n := 3*l.closed() + 1; n <= len(l)+4; n++ {
			refuse(n, op)
		}
		for _, n := range []int{0, -1, -2, -3, -4, math.MinInt, math.MinInt + 1, math.MaxInt, math.MaxInt - 1, 1<<32 + 1, 1<<32 + 3, -1<<32 + 1} {
			refuse(n, op)
		}
	}
}

func TestAttest(t *testing.T) {
	for name, l := range ledgers() {
		for _, n := range []int{0, 1, 2, 3, 4, 5, 6, len(l)} {
			if n <= len(l) {
				_, b := made(t, 4000, l[:n]...)
				what := fmt.Sprintf("%s, %d transactions", name, n)
				attestsAll(t, what, b, l[:n])
				attestsNoMore(t, what, b, l[:n])
			}
		}
	}
	throughout(t, times(), func(t *testing.T, what string, b *daybook.DB) {
		t.Helper()
		attestsAll(t, what, b, times())
		attestsNoMore(t, what, b, times())
	})
}

// What the open transaction did is not shown, though its commit will close a block.
func TestAttestWhileOpen(t *testing.T) {
	l := short()[:3]
	_, b := made(t, 1000, l[:2]...)
	fine(t, "P14: Begin", b.Begin(l[2].time))
	for _, a := range l[2].acts {
		fine(t, "P15: "+a.what, a.do(b))
		attestsNoMore(t, "open", b, l[:2])
	}
	if n, err := b.Commit(); n != 3 || err != nil {
		t.Fatalf("P17: Commit = %d, %v", n, err)
	}
	attestsAll(t, "committed", b, l)
}

// noEvidence: Attested answers ErrProof, and nothing beside it.
func noEvidence(t *testing.T, what string, evidence []byte, g api.Digest) {
	t.Helper()
	op, err := daybook.Attested(evidence, g)
	if err != error(api.ErrProof) || op != nil {
		t.Errorf("P24: Attested of %d bytes, %s, under %v: %q, %v, want ErrProof", len(evidence), what, g, op, err)
	}
}

// Evidence that is cut off, goes on, or is held against another digest.
func TestNoEvidence(t *testing.T) {
	l := wide()[:18]
	last, others := l.digest(), append(wrongDigests(l[:6]), l.digests()[:l.closed()]...)
	for n := range len(l) {
		most := len(l[n].acts) - 1
		for _, op := range []int{0, most / 2, most} {
			e := l.evidence(n+1, op)
			for k := range len(e) {
				noEvidence(t, "cut off", e[:k], last)
				noEvidence(t, "cut off ahead", e[k+1:], last)
			}
			for more := 1; more <= 2*api.HeaderSize; more++ {
				noEvidence(t, "with bytes behind", append(slices.Clone(e), make([]byte, more)...), last)
			}
			noEvidence(t, "with a header twice", append(slices.Clone(e), l.header(l.closed())...), last)
			for _, g := range others {
				noEvidence(t, "under another digest", e, g)
			}
		}
	}
	for _, l := range []ledger{short()[:3], times()[:3], times()[:6]} { // nothing comes behind the last bytes, which may be noughts
		for n := len(l) - 2; n <= len(l); n++ {
			e, g := l.evidence(n, 0), l.digest()
			for k := range len(e) {
				noEvidence(t, "of the last block, cut off", e[:k], g)
			}
			for more := 1; more <= 2*api.HeaderSize; more++ {
				noEvidence(t, "of the last block, with bytes behind", append(slices.Clone(e), make([]byte, more)...), g)
			}
		}
	}
	noEvidence(t, "nil", nil, api.Digest{})
	noEvidence(t, "nil", nil, last)
	for _, k := range []int{1, 20, 30, 60, 1000, 70000} {
		for _, c := range []byte{0, 1, 4, 'B', 255} {
			for _, g := range append(l.digests(), api.Digest{Blocks: -1}, api.Digest{Blocks: math.MaxInt}, api.Digest{Blocks: math.MinInt}) {
				noEvidence(t, "bytes of no form", bytes.Repeat([]byte{c}, k), g)
			}
		}
	}
}

// One bit of evidence is turned, anywhere: it shows nothing any more, but where other bytes have just the sums that these had.
func TestEvidenceWithBitTurned(t *testing.T) {
	met, all := 0, 0
	for _, l := range []ledger{short().with(times()[1:9]...), wide()[:6]} {
		g := l.digest()
		for n := 1; n <= 3*l.closed(); n++ {
			for _, op := range []int{0, len(l[n-1].acts) - 1} {
				e := l.evidence(n, op)
				for k := range 8 * len(e) {
					other := slices.Clone(e)
					other[k/8] ^= 1 << (k % 8)
					if all++; same(t, other, g) {
						met++
					}
				}
			}
		}
	}
	if met > all/1000 {
		t.Errorf("P24: of %d turned bits %d show something else", all, met)
	}
}

// same: Attested answers what the document says; true: it gives an op.
func same(t *testing.T, e []byte, g api.Digest) bool {
	t.Helper()
	want, ok := attested(e, g)
	if !ok {
		noEvidence(t, "that shows nothing", e, g)
	} else if got, err := daybook.Attested(e, g); err != nil || !bytes.Equal(got, want) {
		t.Errorf("P24: Attested(%v, %v) = %q, %v, want %q", e, g, got, err, want)
	}
	return ok
}

// shown is evidence in parts, made by hand.
type shown struct {
	number        int
	op, many      byte
	time          int
	text          []byte
	ofOp, ofEntry []api.Hash
	ahead         api.Hash
	behind        []api.Hash // the roots of the blocks behind
}

// climbed is where a path leads; what it has too much is left, what it lacks is noughts.
func climbed(root api.Hash, at, many int, path []api.Hash) api.Hash {
	if many <= 1 {
		return root
	}
	k := 1
	for 2*k < many {
		k *= 2
	}
	var beside api.Hash
	if len(path) > 0 {
		beside = path[len(path)-1]
		path = path[:len(path)-1]
	}
	if at < k {
		left := climbed(root, at, k, path)
		return sumOf(join([]byte{1}, left[:], beside[:]))
	}
	right := climbed(root, at-k, many-k, path)
	return sumOf(join([]byte{1}, beside[:], right[:]))
}

// bytes are the evidence, and the digest to which it leads.
func (s shown) bytes() ([]byte, api.Digest) {
	path := func(l []api.Hash) []byte {
		all := []byte{byte(len(l))}
		for _, h := range l {
			all = append(all, h[:]...)
		}
		return all
	}
	ops := climbed(sumOf(join([]byte{0}, s.text)), int(s.op), int(s.many), s.ofOp)
	entry := join(number4(s.number), number8(s.time), []byte{s.many}, ops[:])
	block := (s.number + 2) / 3
	root := climbed(sumOf(join([]byte{0}, entry)), (s.number+2)%3, 3, s.ofEntry)
	first := join([]byte{'B'}, number4(block), s.ahead[:], root[:])
	headers, g := chained(api.Digest{Blocks: block, Hash: sumOf(first)}, s.behind...)
	return join(number4(s.number), []byte{s.op, s.many}, number8(s.time), []byte{byte(len(s.text) >> 8), byte(len(s.text))}, s.text, path(s.ofOp), path(s.ofEntry), s.ahead[:], headers), g
}

// Each thing that Attested looks at, with all else made right for it: so what is refused is refused for that alone.
func TestEvidenceOneThing(t *testing.T) {
	text := insert("t", num(1), txt("x")).text()
	h := func(n byte) api.Hash { return api.Hash{n, n + 1, n + 2, n + 3} }
	hashes := func(many int) []api.Hash {
		return []api.Hash{h(1), h(2), h(3), h(4), h(5), h(6), h(7), h(8), h(9)}[:many]
	}
	whole := shown{number: 5, op: 2, many: 4, time: -7, text: text, ofOp: hashes(2), ofEntry: hashes(2), ahead: h(70), behind: hashes(3)}
	changes := map[string]struct {
		right  bool
		change func(s *shown)
	}{
		"nothing":                     {true, func(s *shown) {}},
		"no header":                   {true, func(s *shown) { s.behind = nil }},
		"another time":                {true, func(s *shown) { s.time = math.MinInt }},
		"noughts as hash ahead":       {true, func(s *shown) { s.ahead = api.Hash{} }},
		"the third of a block":        {true, func(s *shown) { s.number, s.ofEntry = 6, hashes(1) }},
		"a transaction of a late one": {true, func(s *shown) { s.number, s.ofEntry = 1<<32-2, hashes(2) }},
		"the greatest number":         {true, func(s *shown) { s.number, s.ofEntry = 1<<32-1, hashes(1) }},
		"the first block":             {true, func(s *shown) { s.number, s.ahead = 2, api.Hash{} }},
		"one op":                      {true, func(s *shown) { s.op, s.many, s.ofOp = 0, 1, nil }},
		"MaxOps ops":                  {true, func(s *shown) { s.op, s.many, s.ofOp = 15, 16, hashes(4) }},
		"the first of MaxOps ops":     {true, func(s *shown) { s.op, s.many, s.ofOp = 0, 16, hashes(4) }},
		"the last of fifteen":         {true, func(s *shown) { s.op, s.many, s.ofOp = 14, 15, hashes(3) }},
		"the number 0":                {false, func(s *shown) { s.number, s.ofEntry, s.ahead = 0, hashes(1), api.Hash{} }},
		"a hash ahead of the first":   {false, func(s *shown) { s.number = 2 }},
		"a hash ahead of transaction 1, of one bit": {false, func(s *shown) { s.number, s.ahead = 1, api.Hash{0, 0, 0, 1} }},
		"a hash ahead of transaction 3":             {false, func(s *shown) { s.number, s.ofEntry = 3, hashes(1) }},
		"one op more than MaxOps":                   {false, func(s *shown) { s.op, s.many, s.ofOp = 15, 17, hashes(5) }},
		"the last of them":                          {false, func(s *shown) { s.op, s.many, s.ofOp = 16, 17, hashes(1) }},
		"255 ops":                                   {false, func(s *shown) { s.op, s.many, s.ofOp = 3, 255, hashes(8) }},
		"no ops":                                    {false, func(s *shown) { s.op, s.many, s.ofOp = 0, 0, nil }},
		"an op behind the last":                     {false, func(s *shown) { s.op = 4 }},
		"an op far behind the last":                 {false, func(s *shown) { s.op = 255 }},
		"the one op, counted from 1":                {false, func(s *shown) { s.op, s.many, s.ofOp = 1, 1, nil }},
		"no path of the op":                         {false, func(s *shown) { s.ofOp = nil }},
		"a path of the op that is too short":        {false, func(s *shown) { s.ofOp = hashes(1) }},
		"a path of the op that is too long":         {false, func(s *shown) { s.ofOp = hashes(3) }},
		"a path of one op":                          {false, func(s *shown) { s.op, s.many, s.ofOp = 0, 1, hashes(1) }},
		"no path of the entry":                      {false, func(s *shown) { s.ofEntry = nil }},
		"a path of the entry that is too short":     {false, func(s *shown) { s.ofEntry = hashes(1) }},
		"a path of the entry that is too long":      {false, func(s *shown) { s.ofEntry = hashes(3) }},
		"the third's path that is too long":         {false, func(s *shown) { s.number = 6 }},
		"the third's path that is too short":        {false, func(s *shown) { s.number, s.ofEntry = 6, nil }},
	}
	for what, c := range changes {
		s := whole
		c.change(&s)
		e, g := s.bytes()
		if !c.right {
			noEvidence(t, what, e, g)
			continue
		}
		if got, err := daybook.Attested(e, g); err != nil || !bytes.Equal(got, text) {
			t.Errorf("P24: Attested, %s: %q, %v", what, got, err)
		}
		for n := range len(e) {
			noEvidence(t, what+", cut off", e[:n], g)
		}
		g.Blocks++
		noEvidence(t, what+", under a later block", e, g)
	}
}

// Headers behind the block that do not go on from it, though the last has the digest's hash.
func TestEvidenceOfOtherHeaders(t *testing.T) {
	l := times()
	for n := 1; n <= 9; n++ {
		block := (n + 2) / 3
		e := l.evidence(n, 0)
		cut := len(e) - len(l.proof(block))
		for other := range l.closed() + 1 {
			if other != block {
				noEvidence(t, "with the headers behind another block", join(e[:cut], l.proof(other)), l.digest())
			}
		}
		if block+1 < l.closed() {
			noEvidence(t, "with the last header alone", join(e[:cut], l.header(l.closed())), l.digest())
		}
		for to := block; to <= l.closed(); to++ {
			early := l[:3*to]
			if got, err := daybook.Attested(join(e[:cut], early.proof(block)), early.digest()); err != nil || !bytes.Equal(got, l[n-1].acts[0].text()) {
				t.Errorf("P24: Attested under an earlier digest: %q, %v", got, err)
			}
		}
	}
}

// attested is what P24 says, word by word.
func attested(e []byte, g api.Digest) ([]byte, bool) {
	var short bool
	take := func(n int) []byte {
		if n > len(e) {
			short = true
			return make([]byte, n)
		}
		x := e[:n]
		e = e[n:]
		return x
	}
	value := func(n int) int {
		sum := 0
		for _, c := range take(n) {
			sum = sum<<8 | int(c)
		}
		return sum
	}
	path := func() (l []api.Hash) {
		for range value(1) {
			l = append(l, api.Hash(take(4)))
		}
		return l
	}
	number, op, many, time := value(4), value(1), value(1), take(8)
	text := take(value(2))
	ofOp, ofEntry, ahead := path(), path(), api.Hash(take(4))
	if short || number < 1 || op >= many || many > 16 || len(ofOp) != len(roots(make([][]byte, many), op))/4 || len(ofEntry) != 2-(number-1)%3/2 {
		return nil, false
	}
	ops := climbed(sumOf(join([]byte{0}, text)), op, many, ofOp)
	root := climbed(sumOf(join([]byte{0}, number4(number), time, []byte{byte(many)}, ops[:])), (number-1)%3, 3, ofEntry)
	block := (number + 2) / 3
	header := join([]byte{'B'}, number4(block), ahead[:], root[:])
	return text, (block > 1 || ahead == api.Hash{}) && extends(api.Digest{Blocks: block, Hash: sumOf(header)}, g, e)
}

// Any bytes: what shows anything is what the document says does.
func TestEvidenceAnything(t *testing.T) {
	r := rand.New(rand.NewSource(6))
	l := short().with(times()[1:6]...)
	right := 0
	for range 30000 {
		n := 1 + r.Intn(len(l))
		e := l.evidence(n, r.Intn(len(l[n-1].acts)))
		g := l.digest()
		for range r.Intn(3) {
			switch r.Intn(6) {
			case 0:
				e[r.Intn(len(e))] ^= byte(1 << r.Intn(8))
			case 1:
				e = e[:r.Intn(len(e)+1)]
			case 2:
				e = append(e, make([]byte, r.Intn(14))...)
			case 3:
				g.Blocks += r.Intn(3) - 1
			case 4:
				at := 20 + r.Intn(10) // two bytes of the op, with the sum that they had
				if at+1 < len(e) {
					e[at]++
					e[at+1] -= 33
				}
			case 5:
				e[r.Intn(min(len(e), 18))] = byte(r.Intn(4))
			}
			if len(e) == 0 {
				e = []byte{0}
			}
		}
		if same(t, e, g) {
			right++
		}
	}
	if right < 1000 || right > 29000 {
		t.Errorf("P24: %d of 30000 pieces of evidence were right", right)
	}
}
