package tree

import (
	"math/rand"
	"slices"
	"strconv"
	"strings"
	"testing"

	"daybook/api"
	"daybook/disk"
	"daybook/sums"
)

// forger writes pages with right checks, whatever is in them.
type forger struct {
	d    *disk.Disk
	next int // the sector that it writes into
}

func (f *forger) page(p page) link {
	f.d.Write(f.next, p.text())
	f.next++
	return link{f.next - 1, sums.Check([]byte(p.text()))}
}

// tree opens the tree that has this root.
func (f *forger) tree(t *testing.T, root link) *Tree {
	t.Helper()
	x, err := Open(f.d, 0, f.d.Sectors())
	if err != nil {
		t.Fatal(err)
	}
	x.root = root
	if err := x.Save(); err != nil {
		t.Fatal(err)
	}
	if x, err = Open(f.d, 0, f.d.Sectors()); err != nil {
		t.Fatal(err)
	}
	return x
}

// forged are roots of trees that no tree has written, though all checks are right.
func forged() map[string]func(f *forger) link {
	long := strings.Repeat("v", 50) // so that no change needs the leaf's neighbour
	two := leaf{{"m", long}, {"n", long}}
	of := func(above int, children ...child) page { return inner{above, children} }
	return map[string]func(f *forger) link{
		"one leaf twice": func(f *forger) link {
			l := f.page(two)
			return f.page(of(1, child{"", l}, child{"m", l}))
		},
		"one leaf three times": func(f *forger) link {
			l := f.page(two)
			return f.page(of(1, child{"", l}, child{"a", l}, child{"z", l}))
		},
		"keys ahead of their page's lowest": func(f *forger) link {
			return f.page(of(1, child{"", f.page(leaf{{"a", ""}})}, child{"p", f.page(two)}))
		},
		"keys that belong into the next page": func(f *forger) link {
			return f.page(of(1, child{"", f.page(two)}, child{"n", f.page(leaf{{"o", ""}})}))
		},
		"pairs that fall":     func(f *forger) link { return f.page(leaf{{"b", ""}, {"a", ""}}) },
		"one key twice":       func(f *forger) link { return f.page(leaf{{"b", "1"}, {"b", "2"}}) },
		"children that fall":  func(f *forger) link { return f.page(of(1, child{"b", f.page(two)}, child{"", f.page(two)})) },
		"children of one key": func(f *forger) link { return f.page(of(1, child{"", f.page(two)}, child{"", f.page(two)})) },
		"no lowest child": func(f *forger) link {
			return f.page(of(1, child{"a", f.page(two)}, child{"o", f.page(leaf{{"p", ""}})}))
		},
		"an empty leaf": func(f *forger) link { return f.page(of(1, child{"", f.page(leaf{})}, child{"a", f.page(two)})) },
		"a leaf that is inner": func(f *forger) link {
			return f.page(of(2, child{"", f.page(two)}, child{"n", f.page(leaf{{"o", ""}})}))
		},
		"an inner page for a leaf": func(f *forger) link {
			below := f.page(of(1, child{"", f.page(leaf{{"a", ""}})}, child{"b", f.page(leaf{{"c", ""}})}))
			return f.page(of(1, child{"", below}, child{"m", f.page(two)}))
		},
		"a head as root":      func(f *forger) link { text, _ := f.d.Read(0); return link{0, sums.Check([]byte(text))} },
		"a head as leaf":      func(f *forger) link { return f.page(of(1, child{"", link{1, 0}}, child{"a", f.page(two)})) },
		"a root that is none": func(f *forger) link { return link{99, 0} },
		"the greatest number": func(f *forger) link { return link{65535, 0} },
		"a leaf of outside":   func(f *forger) link { return f.page(of(1, child{"", link{60, 0}}, child{"a", f.page(two)})) },
		"a wrong check":       func(f *forger) link { l := f.page(two); return link{l.at, l.check + 1} },
		"a level too high":    func(f *forger) link { return f.page(of(8, child{"", f.page(two)}, child{"n", f.page(two)})) },
		"two ways to each":    func(f *forger) link { return f.high(1) },
		"many ways to each":   func(f *forger) link { return f.high(26) },
	}
}

// high is a root with a page of each level below it, each of whose children are all one and the same page.
func (f *forger) high(many int) link {
	below := f.page(leaf{{"m", "1"}})
	for above := 1; above <= mostAbove; above++ {
		n := inner{above, []child{{"", below}}}
		for i := range many {
			n.children = append(n.children, child{string([]byte{byte('a' + i)}), below})
		}
		below = f.page(n)
	}
	return below
}

// Where it cannot be told which sectors are free nothing is written: a page that is led to twice would be given free while there still is a way to it.
func TestNoChangeWhereTheRoomIsNotKnown(t *testing.T) {
	for _, name := range []string{"one leaf twice", "one leaf three times", "two ways to each", "many ways to each", "a head as leaf", "a leaf of outside"} {
		d := disk.New(60)
		if err := Create(d, 0, 60); err != nil {
			t.Fatal(err)
		}
		f := &forger{d, 10}
		x := f.tree(t, forged()[name](f))
		writes := d.Writes()
		for _, k := range []string{"a", "m", "z"} {
			if err := x.Put([]byte(k), nil); err != api.ErrForm {
				t.Errorf("P10: %s: Put(%q): %v, want ErrForm", name, k, err)
			}
			if err := x.Delete([]byte(k)); err != api.ErrForm && err != api.ErrNone {
				t.Errorf("P10: %s: Delete(%q): %v, want ErrForm or ErrNone", name, k, err)
			}
		}
		if d.Writes() != writes {
			t.Errorf("P1: %s: ErrForm was answered, and something was written", name)
		}
	}
}

// Whatever stands there: all calls end, and tell ErrForm where they meet it.
func TestForgedPages(t *testing.T) {
	for name, root := range forged() {
		d := disk.New(60)
		if err := Create(d, 0, 60); err != nil {
			t.Fatal(err)
		}
		f := &forger{d, 10}
		x := f.tree(t, root(f))
		if l, err := x.Scan(nil, 1000); err != api.ErrForm || l != nil {
			t.Errorf("P10: %s: Scan = %v, %v, want ErrForm", name, l, err)
		}
		for _, k := range []string{"\x00", "a", "b", "m", "n", "z"} {
			if v, err := x.Get([]byte(k)); err != nil && err != api.ErrForm && err != api.ErrNone {
				t.Errorf("P10: %s: Get(%q) = %q, %v", name, k, v, err)
			}
			if err := x.Put([]byte(k), nil); err != nil && err != api.ErrForm && err != api.ErrFull {
				t.Errorf("P10: %s: Put(%q): %v", name, k, err)
			}
			if err := x.Delete([]byte(k)); err != nil && err != api.ErrForm && err != api.ErrNone && err != api.ErrFull {
				t.Errorf("P10: %s: Delete(%q): %v", name, k, err)
			}
			x.Scan([]byte(k), 3)
		}
		if err := Create(d, 0, 60); err != nil {
			t.Errorf("P9: %s: Create: %v", name, err)
		}
		if x, err := Open(d, 0, 60); err != nil || x.Put([]byte("k"), nil) != nil {
			t.Errorf("P9: %s: a new tree over it cannot be used: %v", name, err)
		}
	}
}

// altered writes a tree's pages anew, each altered, and answers the link to this one; all checks are right.
func (f *forger) altered(t *testing.T, x *Tree, w way, alter func(text []byte)) link {
	t.Helper()
	p, err := x.read(w)
	if err != nil {
		t.Fatal(err)
	}
	if n, ok := p.(inner); ok {
		children := slices.Clone(n.children)
		for i := range children {
			children[i].link = f.altered(t, x, n.below(i, w), alter)
		}
		p = inner{n.above, children}
	}
	text := []byte(p.text())
	alter(text)
	f.d.Write(f.next, string(text))
	f.next++
	return link{f.next - 1, sums.Check(text)}
}

// wantAnEnd uses a tree of which nothing is known: no call panics, and each ends with an answer that it may give.
func wantAnEnd(t *testing.T, what string, x *Tree, r *rand.Rand) {
	t.Helper()
	for range 25 {
		key := []byte("key " + strconv.Itoa(r.Intn(70)))
		errs := []error{x.Put(key, make([]byte, r.Intn(101))), x.Delete([]byte("key " + strconv.Itoa(r.Intn(70))))}
		_, err := x.Get(key)
		found, e := x.Scan(key[:r.Intn(len(key))], r.Intn(80))
		for i := 1; i < len(found); i++ {
			if string(found[i-1].Key) >= string(found[i].Key) {
				t.Errorf("P10: %s: Scan tells keys that do not rise", what)
			}
		}
		for _, err := range append(errs, err, e, x.Save()) {
			if err != nil && err != api.ErrForm && err != api.ErrNone && err != api.ErrFull {
				t.Errorf("P10: %s: %v", what, err)
			}
		}
	}
}

// Any bytes of pages turned, by a rule that is the same each time, where no check tells it.
func TestForgedBytes(t *testing.T) {
	d, x := made(t, 120)
	for i := range 60 {
		if err := x.Put([]byte("key "+strconv.Itoa(i)), make([]byte, 20+i%7)); err != nil {
			t.Fatal(err)
		}
	}
	if err := x.Save(); err != nil {
		t.Fatal(err)
	}
	for seed := range 700 {
		r := rand.New(rand.NewSource(int64(seed)))
		rarely := 2 + r.Intn(12)
		f := &forger{d.Copy(), 60}
		root := f.altered(t, x, x.top(), func(text []byte) {
			for r.Intn(rarely) == 0 {
				text[r.Intn(1+r.Intn(len(text)))] = byte(r.Intn(1 << r.Intn(9)))
			}
		})
		wantAnEnd(t, "seed "+strconv.Itoa(seed), f.tree(t, root), r)
	}
}
