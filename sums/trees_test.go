package sums_test

import (
	"math"
	"slices"
	"testing"

	"daybook/api"
	"daybook/sums"
)

func letters(n int) [][]byte {
	var l [][]byte
	for i := range n {
		l = append(l, []byte{byte(65 + i)})
	}
	return l
}

// numbered has leaves of several lengths, the empty one among them.
func numbered(n int) [][]byte {
	var l [][]byte
	for i := range n {
		l = append(l, []byte{byte(i), byte(i >> 8), 7, 8}[:i%5])
	}
	return l
}

func half(n int) int {
	k := 1
	for 2*k < n {
		k = 2 * k
	}
	return k
}

// byRootWords is P4's Root by its own words.
func byRootWords(leaves [][]byte) api.Hash {
	switch len(leaves) {
	case 0:
		return bySumWords(nil)
	case 1:
		return bySumWords(append([]byte{0}, leaves[0]...))
	}
	k := half(len(leaves))
	a, b := byRootWords(leaves[:k]), byRootWords(leaves[k:])
	return bySumWords(slices.Concat([]byte{1}, a[:], b[:]))
}

// byPathWords is P4's Path by its own words, from the top down.
func byPathWords(leaves [][]byte, at int) []api.Hash {
	var l []api.Hash
	for len(leaves) > 1 {
		k := half(len(leaves))
		beside := leaves[k:]
		if at < k {
			leaves = leaves[:k]
		} else {
			beside, leaves, at = leaves[:k], leaves[k:], at-k
		}
		l = append(l, byRootWords(beside))
	}
	slices.Reverse(l)
	return l
}

func TestRootOfKnownLeaves(t *testing.T) {
	for n, want := range map[int]api.Hash{
		0: {0, 0, 21, 5},
		1: {0, 89, 106, 168},
		2: {238, 49, 51, 249},
		3: {17, 185, 211, 32},
		4: {18, 60, 67, 215},
		7: {123, 32, 167, 18},
		8: {123, 31, 26, 43},
	} {
		if h := sums.Root(letters(n)); h != want {
			t.Errorf("P4: Root of %d letters = %v, want %v", n, h, want)
		}
	}
}

func TestRootOfEmptyLeaves(t *testing.T) {
	for _, x := range []struct {
		leaves [][]byte
		want   api.Hash
	}{
		{nil, api.Hash{0, 0, 21, 5}},
		{[][]byte{}, api.Hash{0, 0, 21, 5}},
		{[][]byte{nil}, api.Hash{0, 2, 181, 166}},
		{[][]byte{{}}, api.Hash{0, 2, 181, 166}},
		{[][]byte{nil, {}}, api.Hash{115, 243, 219, 159}},
	} {
		if h := sums.Root(x.leaves); h != x.want {
			t.Errorf("P4: Root(%v) = %v, want %v", x.leaves, h, x.want)
		}
	}
}

func TestRootOfEachNumberOfLeaves(t *testing.T) {
	for n := range 140 {
		l := numbered(n)
		if h, want := sums.Root(l), byRootWords(l); h != want {
			t.Errorf("P4: Root of %d leaves = %v, want %v", n, h, want)
		}
	}
}

// The least and the greatest root that a leaf can have are roots like any other.
func TestRootOfLeavesAtTheEdges(t *testing.T) {
	least, most := []byte{74, 3, 11, 11, 9, 228}, []byte{74, 3, 11, 11, 9, 227}
	if h := sums.Root([][]byte{least}); h != (api.Hash{}) {
		t.Errorf("P4: Root = %v, want noughts", h)
	}
	if h := sums.Root([][]byte{most}); h != (api.Hash{255, 255, 255, 250}) {
		t.Errorf("P4: Root = %v, want the greatest", h)
	}
	for n := range 10 {
		var l [][]byte
		for i := range n {
			l = append(l, [][]byte{least, most, nil}[i%3])
		}
		if h, want := sums.Root(l), byRootWords(l); h != want {
			t.Errorf("P4: Root of %d = %v, want %v", n, h, want)
		}
	}
}

func TestPathAndClimbAtEachLeaf(t *testing.T) {
	for n := 1; n < 70; n++ {
		l := numbered(n)
		for at := range n {
			p, err := sums.Path(l, at)
			if want := byPathWords(l, at); err != nil || !slices.Equal(p, want) {
				t.Fatalf("P4: Path(%d) of %d = %v, %v, want %v", at, n, p, err, want)
			}
			h, err := sums.Climb(l[at], at, n, p)
			if want := byRootWords(l); err != nil || h != want {
				t.Fatalf("P4: Climb at %d of %d = %v, %v, want %v", at, n, h, err, want)
			}
		}
	}
}

func TestPathAtNoLeaf(t *testing.T) {
	for _, n := range []int{0, 1, 2, 3, 8, 13} {
		for _, at := range []int{-1, n, n + 1, math.MinInt, math.MaxInt} {
			if p, err := sums.Path(numbered(n), at); err != api.ErrArg || p != nil {
				t.Errorf("P4, P1: Path(%d) of %d = %v, %v, want ErrArg", at, n, p, err)
			}
		}
	}
}

func wrongClimb(t *testing.T, at, many int, path []api.Hash) {
	t.Helper()
	h, err := sums.Climb([]byte("leaf"), at, many, path)
	if err != api.ErrArg || h != (api.Hash{}) {
		t.Errorf("P4, P1: Climb at %d of %d with %d roots = %v, %v, want ErrArg", at, many, len(path), h, err)
	}
}

func TestClimbAtNoLeaf(t *testing.T) {
	for _, many := range []int{math.MinInt, -4096, -1, 0, 4097, 8192, math.MaxInt} {
		for _, at := range []int{math.MinInt, -1, 0, 1, 4096, math.MaxInt} {
			for roots := range 15 {
				wrongClimb(t, at, many, make([]api.Hash, roots))
			}
		}
	}
	for _, many := range []int{1, 2, 3, 4096} {
		for _, at := range []int{math.MinInt, -1, many, many + 1, math.MaxInt} {
			for roots := range 15 {
				wrongClimb(t, at, many, make([]api.Hash, roots))
			}
		}
	}
}

func TestClimbByPathsOfEachLength(t *testing.T) {
	for many := 1; many < 34; many++ {
		l := numbered(many)
		for at := range many {
			right := len(byPathWords(l, at))
			for roots := range 10 {
				if roots != right {
					wrongClimb(t, at, many, make([]api.Hash, roots))
				} else if _, err := sums.Climb(nil, at, many, make([]api.Hash, roots)); err != nil {
					t.Errorf("P4: Climb at %d of %d with %d roots: %v", at, many, roots, err)
				}
			}
		}
	}
	wrongClimb(t, 0, 1, make([]api.Hash, 5000))
}

// Any four bytes may stand in a path, those too that are no sum.
func TestClimbByAnyRoots(t *testing.T) {
	for _, beside := range []api.Hash{{}, {255, 255, 255, 255}, {255, 255, 255, 251}, {0, 0, 21, 5}} {
		leaf := byRootWords(letters(1))
		want := bySumWords(slices.Concat([]byte{1}, leaf[:], beside[:]))
		if h, err := sums.Climb([]byte("A"), 0, 2, []api.Hash{beside}); err != nil || h != want {
			t.Errorf("P4: Climb beside %v = %v, %v, want %v", beside, h, err, want)
		}
		want = bySumWords(slices.Concat([]byte{1}, beside[:], leaf[:]))
		if h, err := sums.Climb([]byte("A"), 1, 2, []api.Hash{beside}); err != nil || h != want {
			t.Errorf("P4: Climb behind %v = %v, %v, want %v", beside, h, err, want)
		}
	}
}

// Only Climb has a greatest number of leaves.
func TestManyLeaves(t *testing.T) {
	for _, n := range []int{4095, 4096, 4097} {
		l := numbered(n)
		root := byRootWords(l)
		if h := sums.Root(l); h != root {
			t.Errorf("P4: Root of %d = %v, want %v", n, h, root)
		}
		for _, at := range []int{0, 1, 2047, 2048, 4094, n - 1} {
			p, err := sums.Path(l, at)
			if err != nil || !slices.Equal(p, byPathWords(l, at)) {
				t.Errorf("P4: Path(%d) of %d = %v, %v", at, n, p, err)
			}
			if n > 4096 {
				wrongClimb(t, at, n, p)
			} else if h, err := sums.Climb(l[at], at, n, p); err != nil || h != root {
				t.Errorf("P4: Climb at %d of %d = %v, %v, want %v", at, n, h, err, root)
			}
		}
	}
}
