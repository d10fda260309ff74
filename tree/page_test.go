package tree

import (
	"math/rand"
	"reflect"
	"strings"
	"testing"

	"daybook/disk"
)

func TestPagesGiveBack(t *testing.T) {
	long := strings.Repeat("k", 40)
	for _, p := range []page{
		leaf{},
		leaf{{"a", ""}},
		leaf{{"a", "1"}, {"b", strings.Repeat("\xff", 100)}, {long, "\x00"}},
		leaf{{long, strings.Repeat("v", 100)}},
		inner{1, []child{{"", link{3, 0}}, {"a", link{4095, 1<<32 - 1}}}},
		inner{7, []child{{long, link{9, 8}}, {long + "", link{7, 6}}, {"\xff", link{65535, 1}}}},
	} {
		text := p.text()
		if len(text) != disk.Size {
			t.Fatalf("a page of %d bytes", len(text))
		}
		if got, ok := parse(text); !ok || !reflect.DeepEqual(got, p) {
			t.Errorf("%v came back as %v, %v", p, got, ok)
		}
	}
}

func TestParseRefuses(t *testing.T) {
	filled := func(s string) string { return s + strings.Repeat("\x00", max(0, disk.Size-len(s))) }
	key := strings.Repeat("k", 41)
	for name, text := range map[string]string{
		"no bytes":                    "",
		"one byte":                    "\x00",
		"too few bytes":               filled("\x00\x01\x01a\x01b")[:200],
		"too many bytes":              filled("\x00\x01\x01a\x01b") + "\x00",
		"a key of no bytes":           filled("\x00\x01\x00\x01b"),
		"a key of 41 bytes":           filled("\x00\x01\x29" + key + "\x00"),
		"a value of 101 bytes":        filled("\x00\x01\x01a\x65" + strings.Repeat("v", 101)),
		"something behind the pairs":  filled("\x00\x01\x01a\x01bx"),
		"something at the end":        filled("\x00\x00")[:255] + "x",
		"pairs that go on beyond it":  filled("\x00\xff" + strings.Repeat("\x01a\x00", 84)),
		"a value that goes beyond it": filled("\x00\x02\x0baaaaaaaaaaa\x64" + strings.Repeat("v", 100) + "\x28" + strings.Repeat("k", 40) + "\x64" + strings.Repeat("v", 100))[:256],
		"a level that is too high":    filled("\x08\x02\x00\x00\x03\x00\x00\x00\x00\x01a\x00\x04\x00\x00\x00\x00"),
		"no child":                    filled("\x01\x00"),
		"one child":                   filled("\x01\x01\x00\x00\x03\x00\x00\x00\x00"),
		"a child's key of 41 bytes":   filled("\x01\x02\x00\x00\x03\x00\x00\x00\x00\x29" + key + "\x00\x04\x00\x00\x00\x00"),
		"something behind the others": filled("\x01\x02\x00\x00\x03\x00\x00\x00\x00\x01a\x00\x04\x00\x00\x00\x00x"),
		"all bytes 255":               strings.Repeat("\xff", 256),
		"all bytes 1":                 strings.Repeat("\x01", 256),
	} {
		if p, ok := parse(text); ok || p != nil {
			t.Errorf("%s was taken for the page %v", name, p)
		}
	}
	if _, ok := parse(filled("\x07\x02\x00\x00\x03\x00\x00\x00\x00\x01a\x00\x04\x00\x00\x00\x00")); !ok {
		t.Error("an inner page of the greatest level was refused")
	}
}

// anyPage has entries of any length that take at least so many bytes.
func anyPage(r *rand.Rand, isLeaf bool, least int) page {
	l, n := leaf{}, inner{above: 1}
	length := func(most int) string {
		if r.Intn(3) == 0 {
			return strings.Repeat("x", most)
		}
		return strings.Repeat("x", r.Intn(most+1))
	}
	for bytesOf(l) < least {
		l = append(l, pair{length(40), length(100)})
	}
	for bytesOf(n) < least {
		n.children = append(n.children, child{low: length(40)})
	}
	if isLeaf {
		return l
	}
	return n
}

// What is cut has all entries in order, and no part is too great for a sector, or so small that it would be joined again.
func TestCut(t *testing.T) {
	r := rand.New(rand.NewSource(1))
	for range 20000 {
		whole := anyPage(r, r.Intn(2) == 0, r.Intn(500))
		parts := cut(whole)
		all := parts[0]
		for i, p := range parts {
			if bytesOf(p) > body || len(parts) > 1 && bytesOf(p) < p.least() {
				t.Fatalf("a page of %d bytes was cut into %d parts, one of %d bytes", bytesOf(whole), len(parts), bytesOf(p))
			}
			if i > 0 {
				all = joined(all, p)
			}
		}
		if len(parts) == 1 != (bytesOf(whole) <= body) || all.count() != whole.count() {
			t.Fatalf("a page of %d bytes was cut into %d parts", bytesOf(whole), len(parts))
		}
		for i := range all.count() {
			if all.key(i) != whole.key(i) || all.size(i) != whole.size(i) {
				t.Fatalf("entry %d of %d is another one behind cut and joined", i, all.count())
			}
		}
	}
}

// A great pair between two lists that each fill a sector with it needs a sector of its own.
func TestCutIntoThree(t *testing.T) {
	side := leaf{{"a", strings.Repeat("v", 100)}, {"b", strings.Repeat("v", 18)}}
	whole := joined(joined(side, leaf{{strings.Repeat("k", 40), strings.Repeat("v", 100)}}), side)
	if parts := cut(whole); len(parts) != 3 {
		t.Errorf("%d bytes around a great pair were cut into %d parts, want 3", bytesOf(whole), len(parts))
	}
}

func TestSearch(t *testing.T) {
	l := leaf{{"b", "1"}, {"d", "2"}, {"dd", "3"}}
	n := inner{1, []child{{low: "b"}, {low: "d"}, {low: "dd"}}}
	for _, c := range []struct {
		aim   string
		at    int
		there bool
		child int
	}{
		{"", 0, false, 0}, {"a", 0, false, 0}, {"b", 0, true, 0}, {"c", 1, false, 0}, {"d", 1, true, 1},
		{"d\x00", 2, false, 1}, {"dd", 2, true, 2}, {"ddd", 3, false, 2}, {"e", 3, false, 2},
	} {
		if at, there := l.search(aimAt([]byte(c.aim))); at != c.at || there != c.there {
			t.Errorf("%q stands at %d, %v of a leaf, want %d, %v", c.aim, at, there, c.at, c.there)
		}
		if at := n.search(aimAt([]byte(c.aim))); at != c.child {
			t.Errorf("%q is in child %d, want %d", c.aim, at, c.child)
		}
	}
}
