package tree

import (
	"daybook/api"
	"daybook/area"
	"daybook/numbers"
	"daybook/sums"
)

const mark = "tree"

// head is one of the first two sectors; the newer one leads to the root that was saved last.
// Each head is written over the older one with the generation behind the newer one's (behind the greatest number comes 0): so of two that stand there one is always next to the other, whatever their numbers are.
type head struct {
	slot       int // the sector that it is written into
	generation uint64
	root       link
}

// text is what a sector has of a head. It tells whose it is, and where it stands, so that what another tree has left is not taken for this one's.
func (h head) text(place area.Area) string {
	b := []byte(mark)
	b = numbers.Append(b, uint64(place.First), 4)
	b = numbers.Append(b, uint64(place.Sectors), 4)
	b = numbers.Append(b, uint64(h.slot), 1)
	b = numbers.Append(b, h.generation, 8)
	b = appendLink(b, h.root)
	return filled(numbers.Append(b, uint64(sums.Check(b)), 4))
}

// next is the head that comes behind this one, in the other sector.
func (h head) next(root link) head { return head{1 - h.slot, h.generation + 1, root} }

// write makes a head safe.
func (h head) write(place area.Area) {
	place.Write(h.slot, h.text(place))
	place.Sync()
}

// state is what a head's sector has.
type state int

const (
	wrong  state = iota // what no tree has written here
	broken              // nothing that can be read: a crash came while a head was written
	right
)

func headAt(place area.Area, slot int) (head, state) {
	text, ok := place.Read(slot)
	if !ok {
		return head{}, broken
	}
	r := &numbers.Reader{Rest: text}
	r.Bytes(len(mark) + 4 + 4 + 1)
	h := head{slot, numbers.Read(r.Bytes(8)), readLink(r)}
	if h.text(place) != text {
		return head{}, wrong
	}
	return h, right
}

// newestHead is the head of the tree that was saved last; ErrForm, if the heads are not as trees leave them.
func newestHead(place area.Area) (head, error) {
	one, first := headAt(place, 0)
	two, second := headAt(place, 1)
	switch {
	case first == right && (second == broken || second == right && one == two.next(one.root)):
		return one, nil
	case second == right && (first == broken || first == right && two == one.next(two.root)):
		return two, nil
	}
	return head{}, api.ErrForm
}

// headAhead is the head behind which a new tree's comes: the newest, if a tree is there.
// Else a single head may be left of a tree that is no more: it is wiped, so that it is not taken for a tree's while the new ones are written beside it.
func headAhead(place area.Area) head {
	if h, err := newestHead(place); err == nil {
		return h
	}
	for slot := range heads {
		if _, is := headAt(place, slot); is == right {
			place.Write(slot, "")
			place.Sync()
		}
	}
	return head{slot: heads - 1}
}
