package tree

import (
	"slices"

	"daybook/api"
	"daybook/sums"
)

// draft is a change of the tree while it is worked out. Nothing is written until it is known that all of it can be: so where there is no room, or a page is not what it was, nothing has changed.
type draft struct {
	tree   *Tree
	room   room // behind the change
	writes []write
}

// write is what a sector will have.
type write struct {
	at   int
	text string
}

// edit is what is done to the leaf where a key stands, or would stand: at is the place, there tells whether it is there.
type edit func(l leaf, at int, there bool) (leaf, error)

// change does to the leaf that is aimed at what an edit says.
func (t *Tree) change(where aim, to edit) (err error) {
	if t.failed {
		return api.ErrDisk
	}
	defer func() {
		if t.fails(recover()) {
			err = api.ErrDisk
		}
	}()
	down, err := t.path(where)
	if err != nil {
		return err
	}
	at, there := down.leaf.search(where)
	l, err := to(down.leaf, at, there)
	if err != nil {
		return err
	}
	if t.room == nil {
		if t.room, err = t.survey(); err != nil {
			return err
		}
	}
	d := &draft{tree: t, room: slices.Clone(t.room)}
	root, err := d.replace(down, l)
	if err != nil {
		return err
	}
	for _, w := range d.writes {
		t.place.Write(w.at, w.text)
	}
	t.root, t.room = root, d.room
	return nil
}

// replace lays another leaf in the stead of the one that a path leads to; it answers the root behind that.
// All pages of the path are taken away ahead of what comes in their stead: so the room that the change needs is no more than what it has in the end.
func (d *draft) replace(down path, l leaf) (root link, err error) {
	d.room.drop(down.last.at)
	for _, s := range down.steps {
		d.room.drop(s.here.at)
	}
	parts := cut(l)
	for _, s := range slices.Backward(down.steps) {
		if parts, err = d.mend(s, parts); err != nil {
			return link{}, err
		}
	}
	for len(parts) > 1 {
		children, err := d.keepAll(parts, "")
		if err != nil {
			return link{}, err
		}
		parts = cut(inner{parts[0].level() + 1, children})
	}
	if n, ok := parts[0].(inner); ok && len(n.children) == 1 {
		return n.children[0].link, nil // a page above one other is of no use
	}
	return d.keep(parts[0])
}

// mend is what stands in the stead of an inner page, in order, when these parts stand in the stead of the child to which the path leads.
func (d *draft) mend(s step, parts []page) ([]page, error) {
	from, to := s.at, s.at+1
	if len(parts) == 1 && bytesOf(parts[0]) < parts[0].least() {
		beside := s.at + 1
		if beside == s.count() {
			beside = s.at - 1
		}
		other, err := d.tree.read(s.below(beside, s.here))
		if err != nil {
			return nil, err
		}
		d.room.drop(s.children[beside].at)
		if beside > s.at {
			to, parts = beside+1, cut(joined(parts[0], other))
		} else {
			from, parts = beside, cut(joined(other, parts[0]))
		}
	}
	children, err := d.keepAll(parts, s.children[from].low)
	if err != nil {
		return nil, err
	}
	return cut(inner{s.above, slices.Concat(s.children[:from], children, s.children[to:])}), nil
}

// keep gives a page a sector.
func (d *draft) keep(p page) (link, error) {
	at, ok := d.room.take()
	if !ok {
		return link{}, api.ErrFull
	}
	text := p.text()
	d.writes = append(d.writes, write{at, text})
	return link{at, sums.Check([]byte(text))}, nil
}

// keepAll keeps pages that stand beside each other, the first of them from low on.
func (d *draft) keepAll(parts []page, low string) ([]child, error) {
	var children []child
	for i, p := range parts {
		if i > 0 {
			low = p.key(0)
		}
		l, err := d.keep(p)
		if err != nil {
			return nil, err
		}
		children = append(children, child{low, l})
	}
	return children, nil
}

// joined is one page with all that two neighbours have. They are both leaves or both not, for they have one level.
func joined(ahead, behind page) page {
	switch ahead := ahead.(type) {
	case leaf:
		return slices.Concat(ahead, behind.(leaf))
	case inner:
		return inner{ahead.above, slices.Concat(ahead.children, behind.(inner).children)}
	}
	return ahead
}

func bytesOf(p page) int {
	sum := 0
	for i := range p.count() {
		sum += p.size(i)
	}
	return sum
}

// cut is a page in as many parts as it takes, each as a sector has room for it.
// A part has never fewer bytes than least says: what is cut has more than a sector's, and its two sides differ by no more than the greatest entry.
func cut(p page) []page {
	sum := bytesOf(p)
	if sum <= body {
		return []page{p}
	}
	at := middle(p, sum)
	return append(cut(p.part(0, at)), cut(p.part(at, p.count()))...)
}

// middle is where the sides that a page of so many bytes is cut into are most alike.
func middle(p page, sum int) int {
	best, least, ahead := 0, sum, 0
	for i := range p.count() {
		if greater := max(ahead, sum-ahead); greater < least {
			best, least = i, greater
		}
		ahead += p.size(i)
	}
	return best
}
