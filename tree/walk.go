package tree

import (
	"daybook/api"
	"daybook/sums"
)

const anyLevel = -1

// way is what is known of a page ahead of reading it: where it stands, its level (of the root: not known), and that its keys are at least low and below high ("": there is no end).
// A page is held against it. So whatever is on the disk, each step leads a level down, and no page is met twice in places where its keys can be right.
type way struct {
	link
	level     int
	low, high string
}

// top is the way to the root.
func (t *Tree) top() way { return way{link: t.root, level: anyLevel} }

// below is the way to a child of a page, by the way to that.
func (n inner) below(i int, here way) way {
	next := way{n.children[i].link, n.above - 1, n.children[i].low, here.high}
	if i+1 < len(n.children) {
		next.high = n.children[i+1].low
	}
	return next
}

// fits tells whether a page can be the one that this leads to.
func (w way) fits(p page) bool {
	if w.level != anyLevel && (p.level() != w.level || p.count() == 0) {
		return false
	}
	if p.level() > 0 && p.key(0) != w.low {
		return false
	}
	for i := range p.count() {
		key := p.key(i)
		if key < w.low || i > 0 && key <= p.key(i-1) || w.high != "" && key >= w.high {
			return false
		}
	}
	return true
}

// isPage tells whether a page can stand in a sector.
func (t *Tree) isPage(at int) bool { return at >= emptyAt && at < t.place.Sectors }

// read reads a page; ErrForm, if what stands there is not what the tree wrote.
func (t *Tree) read(w way) (page, error) {
	if !t.isPage(w.at) {
		return nil, api.ErrForm
	}
	text, ok := t.place.Read(w.at)
	if !ok || sums.Check([]byte(text)) != w.check {
		return nil, api.ErrForm
	}
	p, ok := parse(text)
	if !ok || !w.fits(p) {
		return nil, api.ErrForm
	}
	return p, nil
}

// step is one on a path: an inner page, the way to it, and which of its children comes next.
type step struct {
	inner
	here way
	at   int
}

// path leads from the root down to the leaf that is aimed at.
type path struct {
	steps []step
	leaf  leaf
	last  way // to the leaf
}

func (t *Tree) path(where aim) (path, error) {
	down := path{last: t.top()}
	for {
		p, err := t.read(down.last)
		switch p := p.(type) {
		case leaf:
			down.leaf = p
			return down, nil
		case inner:
			at := p.search(where)
			down.steps = append(down.steps, step{p, down.last, at})
			down.last = p.below(at, down.last)
		default:
			return path{}, err
		}
	}
}

// visit shows the pairs from the aim on, in order, as long as show asks for more; it tells whether it still does.
func (t *Tree) visit(w way, where aim, show func(pair) bool) (more bool, err error) {
	p, err := t.read(w)
	switch p := p.(type) {
	case leaf:
		at, _ := p.search(where)
		for _, x := range p[at:] {
			if !show(x) {
				return false, nil
			}
		}
		return true, nil
	case inner:
		for i := p.search(where); i < p.count(); i++ {
			if more, err = t.visit(p.below(i, w), where, show); !more || err != nil {
				return false, err
			}
		}
		return true, nil
	}
	return false, err
}
