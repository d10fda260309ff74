package wal_test

import (
	"bytes"
	"testing"
)

func TestPayloadsAreOnlyRead(t *testing.T) {
	_, l := fresh(t, 30)
	for _, n := range []int{0, 1, 200, 201, 1999, 2000, 2001} {
		room := bytes.Repeat([]byte("spare"), 500)
		before := bytes.Clone(room)
		l.Append(room[:n])
		if !bytes.Equal(room, before) {
			t.Errorf("P2: Append of %d bytes wrote into what it was handed", n)
		}
	}
}

func TestPayloadsAreNotKept(t *testing.T) {
	d, l := fresh(t, 30)
	room := []byte("one and its spare room")
	if err := l.Append(room[:3]); err != nil {
		t.Fatal("P7: Append:", err)
	}
	copy(room, "XXXXXXXXXXXXX")
	has(t, l, "one")
	done(t, "P7: Sync", l.Sync())
	has(t, opened(t, d, 0, 30), "one")
}

// scribble writes over a list and its spare room.
func scribble(list [][]byte) {
	for _, p := range list {
		p = p[:cap(p)]
		for i := range p {
			p[i] = '#'
		}
	}
	list = list[:cap(list)]
	for i := range list {
		list[i] = nil
	}
}

func TestAnswersAreNewMemory(t *testing.T) {
	d, l := fresh(t, 30)
	want := []string{"one", filled("two", 250), "three", "one"}
	put(t, l, want...)
	first := l.All()
	scribble(l.All())
	scribble(opened(t, d, 0, 30).All())
	has(t, l, want...)
	for i, p := range first {
		if string(p) != want[i] {
			t.Errorf("P2: two answers of All share memory: %q", p)
		}
	}
	for i := range first { // no two lists of one answer share memory, nor their spare room
		scribble(first[i : i+1 : i+1])
		for k := i + 1; k < len(first); k++ {
			if string(first[k]) != want[k] {
				t.Errorf("P2: payloads %d and %d of an answer share memory", i, k)
			}
		}
	}
	has(t, l, want...)
}
