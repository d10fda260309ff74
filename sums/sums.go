// Package sums: sums, checks and trees of them: see DOC.md.
package sums

import "daybook/api"

// Sum is the sum of some bytes (P3).
func Sum(text []byte) api.Hash { return hash(add(seed, text)) }

// Check is the check of some bytes (P3).
func Check(text []byte) uint32 {
	c := ^uint32(0)
	for _, b := range text {
		c ^= uint32(b)
		c = c>>4 ^ fourSteps[c&15]
		c = c>>4 ^ fourSteps[c&15]
	}
	return ^c
}

// Root is the root of a tree (P4).
func Root(leaves [][]byte) api.Hash {
	var full []api.Hash
	for _, leaf := range leaves {
		full = carry(full, leafSum(leaf))
	}
	root := noSum
	for _, left := range full {
		root = join(left, root)
	}
	if root == noSum {
		return noLeaves
	}
	return root
}

// Path is the way from a leaf to the root (P4).
func Path(leaves [][]byte, at int) ([]api.Hash, error) {
	if at < 0 || at >= len(leaves) {
		return nil, api.ErrArg
	}
	return way(leaves, at), nil
}

// Climb is the root to which a way leads (P4).
func Climb(leaf []byte, at int, many int, path []api.Hash) (api.Hash, error) {
	if many < 1 || many > mostLeaves || at < 0 || at >= many || len(path) != height(at, many) {
		return api.Hash{}, api.ErrArg
	}
	return climb(leaf, at, many, path), nil
}
