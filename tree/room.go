package tree

import (
	"bytes"

	"daybook/api"
)

// room tells of each sector what it is needed for; it is free, if for nothing.
type room []byte

const (
	fixed   = 1 << iota // no change writes here
	ofSaved             // a page of the tree that was saved last
	ofNow               // a page of the tree as it is
)

// survey looks at which sectors the tree takes, when nothing has changed since it was saved.
// It goes through the inner pages alone: they lead to the leaves.
func (t *Tree) survey() (room, error) {
	r := make(room, t.place.Sectors)
	for i := range emptyAt + 1 {
		r[i] = fixed
	}
	if err := t.mark(r, t.top()); err != nil {
		return nil, err
	}
	return r, nil
}

// mark marks a page and all below it; ErrForm, if it is led to twice.
func (t *Tree) mark(r room, w way) error {
	if !t.isPage(w.at) || r[w.at]&ofNow > 0 {
		return api.ErrForm
	}
	r[w.at] |= ofSaved | ofNow
	if w.level == 0 {
		return nil
	}
	p, err := t.read(w)
	if n, ok := p.(inner); ok {
		for i := range n.children {
			if err := t.mark(r, n.below(i, w)); err != nil {
				return err
			}
		}
	}
	return err
}

// drop takes a page out of the tree as it is.
func (r room) drop(at int) { r[at] &^= ofNow }

// take gives a free sector to the tree as it is; false: there is none.
func (r room) take() (int, bool) {
	at := bytes.IndexByte(r, 0)
	if at < 0 {
		return 0, false
	}
	r[at] = ofNow
	return at, true
}

// save: the tree as it is is the one that was saved last.
func (r room) save() {
	for i := range r {
		r[i] &^= ofSaved
		if r[i]&ofNow > 0 {
			r[i] |= ofSaved
		}
	}
}
