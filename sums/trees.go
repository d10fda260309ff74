package sums

import "daybook/api"

const mostLeaves = 4096

// noLeaves is the root of no leaves.
var noLeaves = Sum(nil)

// noSum stands where there is no root: sums are below the modulus, so it is none of them.
var noSum = api.Hash{255, 255, 255, 255}

func leafSum(leaf []byte) api.Hash {
	return hash(add(add(seed, []byte{0}), leaf))
}

func nodeSum(left, right api.Hash) api.Hash {
	h := add(seed, []byte{1})
	h = add(h, left[:])
	return hash(add(h, right[:]))
}

// carry counts one more leaf, as in binary: full[i] is the root of a full tree of 2^i leaves, or noSum. The greater of them stand to the left, so these are the very trees that splitting at powers of two gives.
func carry(full []api.Hash, root api.Hash) []api.Hash {
	for i, left := range full {
		if left == noSum {
			full[i] = root
			return full
		}
		full[i] = noSum
		root = nodeSum(left, root)
	}
	return append(full, root)
}

// join is the root above two trees, of which one or both may be missing.
func join(left, right api.Hash) api.Hash {
	if left == noSum {
		return right
	}
	if right == noSum {
		return left
	}
	return nodeSum(left, right)
}

// split is the greatest power of two below many, which is 2 or more.
func split(many int) int {
	k := 1
	for k < many-k {
		k *= 2
	}
	return k
}

func way(leaves [][]byte, at int) []api.Hash {
	if len(leaves) == 1 {
		return nil
	}
	k := split(len(leaves))
	if at < k {
		return append(way(leaves[:k], at), Root(leaves[k:]))
	}
	return append(way(leaves[k:], at-k), Root(leaves[:k]))
}

// height is how many roots the path of a leaf has.
func height(at, many int) int {
	up := 0
	for many > 1 {
		k := split(many)
		if at < k {
			many = k
		} else {
			at, many = at-k, many-k
		}
		up++
	}
	return up
}

// climb trusts that path has as many roots as the leaf's height.
func climb(leaf []byte, at, many int, path []api.Hash) api.Hash {
	if many == 1 {
		return leafSum(leaf)
	}
	k, last := split(many), len(path)-1
	if at < k {
		return nodeSum(climb(leaf, at, k, path[:last]), path[last])
	}
	return nodeSum(path[last], climb(leaf, at-k, many-k, path[:last]))
}
