package sums_test

import (
	"slices"
	"testing"

	"daybook/api"
	"daybook/sums"
)

// roomy is a text with spare room behind it, and all of that room.
func roomy(s string) (text, room []byte) {
	room = append([]byte(s), "spare room"...)
	return room[:len(s)], room
}

func TestTextsAreOnlyRead(t *testing.T) {
	text, room := roomy("some text")
	before := slices.Clone(room)
	sums.Sum(text)
	sums.Check(text)
	sums.Climb(text, 1, 3, make([]api.Hash, 2))
	if !slices.Equal(room, before) {
		t.Errorf("P2: %q became %q", before, room)
	}
}

func TestLeavesAreOnlyRead(t *testing.T) {
	var list, rooms, before [][]byte
	for i := range 8 {
		leaf, room := roomy(string(rune('a' + i)))
		list = append(list, leaf)
		rooms = append(rooms, room)
		before = append(before, slices.Clone(room))
	}
	leaves := list[:5]
	sums.Root(leaves)
	for at := -1; at <= 5; at++ {
		sums.Path(leaves, at)
	}
	for i := range list {
		if &list[i][0] != &rooms[i][0] || len(list[i]) != 1 {
			t.Errorf("P2: leaf %d is another one", i)
		}
		if !slices.Equal(rooms[i], before[i]) {
			t.Errorf("P2: leaf %d: %q became %q", i, before[i], rooms[i])
		}
	}
}

func TestPathsAreOnlyRead(t *testing.T) {
	room := []api.Hash{{1}, {2}, {3}, {4}, {5}}
	before := slices.Clone(room)
	for at := range 5 {
		sums.Climb([]byte("x"), at, 5, room[:3])
		sums.Climb([]byte("x"), at, 5, room[:1])
	}
	if !slices.Equal(room, before) {
		t.Errorf("P2: %v became %v", before, room)
	}
}

// What is answered stays as it is, whatever becomes of what was handed in, and the other way round.
func TestAnswersAreNewMemory(t *testing.T) {
	leaves := numbered(11)
	for at := range leaves {
		first, _ := sums.Path(leaves, at)
		want := slices.Clone(first)
		second, _ := sums.Path(leaves, at)
		second = second[:cap(second)]
		for i := range second {
			second[i] = api.Hash{9, 9, 9, 9}
		}
		if !slices.Equal(first, want) {
			t.Errorf("P2: two answers of Path(%d) share memory", at)
		}
		if third, _ := sums.Path(leaves, at); !slices.Equal(third, want) {
			t.Errorf("P2: Path(%d) was kept", at)
		}
	}
	if sums.Root(nil) != (api.Hash{0, 0, 21, 5}) {
		t.Error("P2: the root of no leaves changed")
	}
}

func TestNothingIsKept(t *testing.T) {
	leaves := [][]byte{[]byte("a"), []byte("b"), []byte("c")}
	root := sums.Root(leaves)
	path, _ := sums.Path(leaves, 0)
	want := slices.Clone(path)
	leaves[1][0] = 'x'
	if !slices.Equal(path, want) {
		t.Error("P2: an answer changed with what was handed in")
	}
	if sums.Root(leaves) == root {
		t.Error("P2: Root told an old answer")
	}
	leaves[1][0] = 'b'
	if sums.Root(leaves) != root {
		t.Error("P2: Root of the same leaves is another one")
	}
}

func TestNoPanicForNothing(t *testing.T) {
	sums.Sum(nil)
	sums.Check(nil)
	sums.Root([][]byte{nil, nil, nil})
	if p, err := sums.Path(nil, 0); err != api.ErrArg || p != nil {
		t.Errorf("P1: Path(nil, 0) = %v, %v, want ErrArg", p, err)
	}
	if h, err := sums.Climb(nil, 0, 1, nil); err != nil || h != bySumWords([]byte{0}) {
		t.Errorf("P4: Climb(nil, 0, 1, nil) = %v, %v", h, err)
	}
}
