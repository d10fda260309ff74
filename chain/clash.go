package chain

import (
	"bytes"
	"math/bits"

	"daybook/sums"
)

// two are texts of two chains.
type two struct{ x, y []byte }

// Clash finds two texts of two chains that are not the same and have one sum, if the chains have one digest; false: there are none, for the chains are the same (P25).
// Where two hashes or roots are one, but what they sum up is not, that is it. Else what is summed up tells hashes and roots again, which are the same then, too.
func Clash(c, d Chain) (x, y []byte, ok bool) {
	for i := len(c) - 1; i >= 0; i-- {
		if t, ok := c[i].clash(d[i]); ok {
			return t.x, t.y, true
		}
	}
	return nil, nil, false
}

// clash finds two texts in two blocks of one hash.
func (b block) clash(other block) (two, bool) {
	t := two{b.header.text(), other.header.text()}
	if !bytes.Equal(t.x, t.y) {
		return t, true
	}
	if t, ok := clashOfTrees(entries(b.members), entries(other.members)); ok {
		return t, true
	}
	for i, m := range b.members {
		if t, ok := clashOfTrees(m.ops, other.members[i].ops); ok {
			return t, true
		}
	}
	return two{}, false
}

// clashOfTrees finds two texts in two trees of one root, with as many leaves.
func clashOfTrees(p, q [][]byte) (two, bool) {
	t := two{textOf(p), textOf(q)}
	if !bytes.Equal(t.x, t.y) {
		return t, true
	}
	if len(p) == 1 {
		return two{}, false
	}
	k := split(len(p))
	if t, ok := clashOfTrees(p[:k], q[:k]); ok {
		return t, true
	}
	return clashOfTrees(p[k:], q[k:])
}

// textOf is the text whose sum is the root of these leaves, of which there are some.
func textOf(leaves [][]byte) []byte {
	if len(leaves) == 1 {
		return append([]byte{0}, leaves[0]...)
	}
	k := split(len(leaves))
	left, right := sums.Root(leaves[:k]), sums.Root(leaves[k:])
	return append(append([]byte{1}, left[:]...), right[:]...)
}

// split is the greatest power of two below many, which is 2 or more.
func split(many int) int { return 1 << (bits.Len(uint(many-1)) - 1) }
