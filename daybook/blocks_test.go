package daybook_test

import (
	"encoding/binary"

	"daybook/api"
)

// What the chain of a ledger must be is worked out here by the document's words, P3, P4 and P21 to P24.

// modulus is what sums are taken by.
const modulus = 4294967291

func number4(n int) []byte { return binary.BigEndian.AppendUint32(nil, uint32(n)) }

func number8(n int) []byte { return binary.BigEndian.AppendUint64(nil, uint64(n)) }

func join(texts ...[]byte) []byte {
	var all []byte
	for _, x := range texts {
		all = append(all, x...)
	}
	return all
}

func sumOf(text []byte) api.Hash {
	h := uint64(5381)
	for _, c := range text {
		h = (h*33 + uint64(c) + 1) % modulus
	}
	return api.Hash(number4(int(h)))
}

// halves are the leaves as P4 parts them.
func halves(leaves [][]byte) ([][]byte, [][]byte) {
	k := 1
	for 2*k < len(leaves) {
		k *= 2
	}
	return leaves[:k], leaves[k:]
}

// topText is the text whose sum is a tree's root.
func topText(leaves [][]byte) []byte {
	if len(leaves) == 1 {
		return join([]byte{0}, leaves[0])
	}
	left, right := halves(leaves)
	a, b := rootOf(left), rootOf(right)
	return join([]byte{1}, a[:], b[:])
}

func rootOf(leaves [][]byte) api.Hash { return sumOf(topText(leaves)) }

// allTexts are those of a whole tree.
func allTexts(leaves [][]byte) [][]byte {
	all := [][]byte{topText(leaves)}
	if len(leaves) > 1 {
		left, right := halves(leaves)
		all = append(append(all, allTexts(left)...), allTexts(right)...)
	}
	return all
}

// pathOf is a path with its length ahead of it.
func pathOf(leaves [][]byte, at int) []byte {
	path := roots(leaves, at)
	return join([]byte{byte(len(path) / 4)}, path)
}

func roots(leaves [][]byte, at int) []byte {
	if len(leaves) == 1 {
		return nil
	}
	left, right := halves(leaves)
	if at < len(left) {
		beside := rootOf(right)
		return join(roots(left, at), beside[:])
	}
	beside := rootOf(left)
	return join(roots(right, at-len(left)), beside[:])
}

func (x deal) ops() [][]byte {
	var all [][]byte
	for _, a := range x.acts {
		all = append(all, a.text())
	}
	return all
}

func (l ledger) entry(number int) []byte {
	x := l[number-1]
	root := rootOf(x.ops())
	return join(number4(number), number8(x.time), []byte{byte(len(x.acts))}, root[:])
}

// entries are those of a block.
func (l ledger) entries(block int) [][]byte {
	var all [][]byte
	for n := 3*block - 2; n <= 3*block; n++ {
		all = append(all, l.entry(n))
	}
	return all
}

// headers are those of all blocks.
func (l ledger) headers() [][]byte {
	var all [][]byte
	var ahead api.Hash
	for b := 1; b <= l.closed(); b++ {
		root := rootOf(l.entries(b))
		all = append(all, join([]byte{'B'}, number4(b), ahead[:], root[:]))
		ahead = sumOf(all[b-1])
	}
	return all
}

func (l ledger) header(block int) []byte { return l[:3*block].headers()[block-1] }

// hash is that of a block; noughts ahead of the first.
func (l ledger) hash(block int) api.Hash { return l.digests()[block].Hash }

func (l ledger) closed() int { return len(l) / 3 }

// digests are all that are right, the first of no block.
func (l ledger) digests() []api.Digest {
	all := []api.Digest{{}}
	for i, h := range l.headers() {
		all = append(all, api.Digest{Blocks: i + 1, Hash: sumOf(h)})
	}
	return all
}

func (l ledger) digest() api.Digest { return l.digests()[l.closed()] }

// proof is the headers behind a block.
func (l ledger) proof(block int) []byte { return join(l.headers()[block:]...) }

func (l ledger) evidence(number, op int) []byte {
	x, block := l[number-1], (number+2)/3
	text, ahead := x.acts[op].text(), l.hash(block-1)
	return join(
		number4(number), []byte{byte(op), byte(len(x.acts))}, number8(x.time), []byte{byte(len(text) >> 8), byte(len(text))}, text,
		pathOf(x.ops(), op), pathOf(l.entries(block), (number-1)%3), ahead[:], l.proof(block),
	)
}

// payloads are those of all transactions.
func (l ledger) payloads() [][]byte {
	var all [][]byte
	for _, x := range l {
		all = append(all, x.payload())
	}
	return all
}

// summed are all texts of which a ledger's chain has sums: headers, and those of the trees of entries and of ops.
func (l ledger) summed() [][]byte {
	var all [][]byte
	for b := 1; b <= l.closed(); b++ {
		all = append(all, l.header(b))
		all = append(all, allTexts(l.entries(b))...)
	}
	for _, x := range l {
		all = append(all, allTexts(x.ops())...)
	}
	return all
}
