package chain

import (
	"daybook/api"
	"daybook/numbers"
	"daybook/sums"
)

const (
	headerMark = 'B'
	numberSize = 4
	timeSize   = 8
	opSize     = 2 // bytes of an op's length
)

// entry is what a block sums up of a transaction: of its ops how many there are, and their root.
func entry(number, time, ops int, root api.Hash) []byte {
	b := numbers.Append(make([]byte, 0, api.EntrySize), uint64(number), numberSize)
	b = numbers.Append(b, uint64(time), timeSize)
	return append(append(b, byte(ops)), root[:]...)
}

// header is what is hashed of a block.
type header struct {
	number      int
	ahead, root api.Hash // of the block ahead the hash, of its own entries the root
}

func (h header) text() []byte {
	b := append(make([]byte, 0, api.HeaderSize), headerMark)
	b = numbers.Append(b, uint64(h.number), numberSize)
	return append(append(b, h.ahead[:]...), h.root[:]...)
}

func (h header) hash() api.Hash { return sums.Sum(h.text()) }

// evidence shows an op of a transaction.
type evidence struct {
	number, at, many int // of the transaction, of the op, of all its ops
	time             int
	op               []byte
	ofOp, ofEntry    []api.Hash // the paths of the op among the ops, of the entry among its block's
	ahead            api.Hash   // of the block ahead of its block
	behind           []byte     // the headers of all blocks behind its block
}

func (e evidence) text() []byte {
	b := numbers.Append(nil, uint64(e.number), numberSize)
	b = append(b, byte(e.at), byte(e.many))
	b = numbers.Append(b, uint64(e.time), timeSize)
	b = numbers.Append(b, uint64(len(e.op)), opSize)
	b = append(b, e.op...)
	b = appendPath(b, e.ofOp)
	b = appendPath(b, e.ofEntry)
	b = append(b, e.ahead[:]...)
	return append(b, e.behind...)
}

func appendPath(b []byte, path []api.Hash) []byte {
	b = append(b, byte(len(path)))
	for _, h := range path {
		b = append(b, h[:]...)
	}
	return b
}

// parts takes a proof apart, from its beginning on. What is not there is told at the end, once for all: till then there is less of it.
type parts struct {
	rest  []byte
	short bool // something was not there
}

// next is the next so many bytes, without the room behind them: that belongs to the caller, or to the next part.
func (p *parts) next(n int) []byte {
	if n > len(p.rest) {
		p.short = true
		n = len(p.rest)
	}
	part := p.rest[:n:n]
	p.rest = p.rest[n:]
	return part
}

func (p *parts) number(size int) int { return int(numbers.Read(string(p.next(size)))) }

func (p *parts) hash() api.Hash {
	var h api.Hash
	copy(h[:], p.next(len(h)))
	return h
}

func (p *parts) path() []api.Hash {
	path := make([]api.Hash, p.number(1))
	for i := range path {
		path[i] = p.hash()
	}
	return path
}

// readHeader is the header that stands next; false: it has another mark, or is not there.
func readHeader(p *parts) (header, bool) {
	mark := p.number(1)
	h := header{number: p.number(numberSize), ahead: p.hash(), root: p.hash()}
	return h, mark == headerMark && !p.short
}

// readEvidence is the evidence that a text is; false: it is not of that form. Whether the paths are as long as they should be is for those to tell who climb them.
func readEvidence(text []byte) (evidence, bool) {
	p := &parts{rest: text}
	e := evidence{number: p.number(numberSize), at: p.number(1), many: p.number(1), time: p.number(timeSize)}
	e.op = p.next(p.number(opSize))
	e.ofOp, e.ofEntry, e.ahead = p.path(), p.path(), p.hash()
	e.behind = p.next(len(p.rest))
	first := e.number <= api.PerBlock
	return e, !p.short && e.number >= 1 && e.at < e.many && e.many <= api.MaxOps && (!first || e.ahead == api.Hash{})
}
