// Package chain: transactions summed up in blocks, each of which tells the sum of the one ahead, and what can be shown by them: see DOC.md.
package chain

import (
	"daybook/api"
	"daybook/payload"
	"daybook/sums"
)

// Chain is all blocks that are closed, in order.
type Chain []block

// block is one of them, with what its header sums up.
type block struct {
	header  header
	members []member
}

// member is a transaction of a block.
type member struct {
	number, time int
	ops          [][]byte
}

// Closed is how many blocks so many transactions close.
func Closed(transactions int) int { return transactions / api.PerBlock }

// Of is the chain of these transactions, which are all of a database, from the first on (P21).
func Of(all []payload.Transaction) Chain {
	var c Chain
	for b := range Closed(len(all)) {
		var members []member
		for i := b * api.PerBlock; i < (b+1)*api.PerBlock; i++ {
			members = append(members, memberOf(i+1, all[i]))
		}
		root := sums.Root(entries(members))
		c = append(c, block{header{b + 1, c.hash(b), root}, members})
	}
	return c
}

func memberOf(number int, t payload.Transaction) member {
	m := member{number: number, time: t.Time}
	for _, o := range t.Ops {
		m.ops = append(m.ops, []byte(o.Text()))
	}
	return m
}

func entries(members []member) [][]byte {
	var list [][]byte
	for _, m := range members {
		list = append(list, entry(m.number, m.time, len(m.ops), sums.Root(m.ops)))
	}
	return list
}

// hash is that of the block with this number; noughts, if it is 0.
func (c Chain) hash(number int) api.Hash {
	if number == 0 {
		return api.Hash{}
	}
	return c[number-1].header.hash()
}

// Digest is the chain's digest (P21).
func (c Chain) Digest() api.Digest { return api.Digest{Blocks: len(c), Hash: c.hash(len(c))} }

// MayBeRight tells whether a digest is right for some database of so many transactions. No more can be told without them.
func MayBeRight(d api.Digest, transactions int) bool {
	return d.Blocks >= 0 && d.Blocks <= Closed(transactions) && (d.Blocks > 0 || d.Hash == api.Hash{})
}

// IsRight tells whether a digest is right (P22).
func (c Chain) IsRight(d api.Digest) bool {
	return d.Blocks >= 0 && d.Blocks <= len(c) && d.Hash == c.hash(d.Blocks)
}

// Behind is the headers of all blocks behind the one with this number (0: of all), one behind the other.
func (c Chain) Behind(number int) []byte {
	var all []byte
	for _, b := range c[number:] {
		all = append(all, b.header.text()...)
	}
	return all
}

// Attest is the evidence of an op of a transaction (P24).
func (c Chain) Attest(number int, op int) ([]byte, error) {
	if number < 1 || Closed(number-1) >= len(c) {
		return nil, api.ErrArg
	}
	b, at := c[Closed(number-1)], (number-1)%api.PerBlock
	m := b.members[at]
	ofOp, err := sums.Path(m.ops, op)
	if err != nil {
		return nil, err // ErrArg, as it is here
	}
	ofEntry, err := sums.Path(entries(b.members), at)
	if err != nil {
		return nil, err
	}
	e := evidence{number, op, len(m.ops), m.time, m.ops[op], ofOp, ofEntry, b.header.ahead, c.Behind(b.header.number)}
	return e.text(), nil
}
