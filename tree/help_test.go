package tree_test

import (
	"maps"
	"slices"
	"strconv"
	"strings"
	"testing"

	"daybook/api"
	"daybook/disk"
	"daybook/tree"
)

// pairs is what a tree should have: values by their keys.
type pairs map[string]string

// takes is what P12 says that pairs take.
func (p pairs) takes() int {
	sum := 0
	for k, v := range p {
		sum += len(k) + len(v) + 8
	}
	return sum
}

func (p pairs) keys() []string { return slices.Sorted(maps.Keys(p)) }

// told is what Scan tells of such pairs: those whose keys are not ahead of from, the first many of them.
func (p pairs) told(from string, many int) []string {
	var list []string
	for _, k := range p.keys() {
		if k >= from && many > 0 {
			list = append(list, k+"="+p[k])
			many--
		}
	}
	return list
}

// opened opens a tree that must be there.
func opened(t *testing.T, d *disk.Disk, first, sectors int) *tree.Tree {
	t.Helper()
	x, err := tree.Open(d, first, sectors)
	if err != nil || x == nil {
		t.Fatalf("P9: Open(%d, %d) = %v, %v", first, sectors, x, err)
	}
	return x
}

// fresh is a new tree on a disk of its own that it fills.
func fresh(t *testing.T, sectors int) (*disk.Disk, *tree.Tree) {
	t.Helper()
	d := disk.New(sectors)
	done(t, "P9: Create", tree.Create(d, 0, sectors))
	return d, opened(t, d, 0, sectors)
}

// done fails the test if a call that must be answered without an error was not.
func done(t *testing.T, what string, err error) {
	t.Helper()
	if err != nil {
		t.Fatalf("%s: %v", what, err)
	}
}

func put(t *testing.T, x *tree.Tree, all pairs) {
	t.Helper()
	for _, k := range all.keys() {
		done(t, "P10: Put", x.Put([]byte(k), []byte(all[k])))
	}
}

func list(found []api.Pair) []string {
	var told []string
	for _, x := range found {
		told = append(told, string(x.Key)+"="+string(x.Value))
	}
	return told
}

// scanned is all that a tree has.
func scanned(t *testing.T, x *tree.Tree) pairs {
	t.Helper()
	found, err := x.Scan(nil, 1<<40)
	done(t, "P10: Scan", err)
	all := pairs{}
	for _, p := range found {
		all[string(p.Key)] = string(p.Value)
	}
	if !slices.Equal(list(found), all.told("", len(found))) {
		t.Fatalf("P10: Scan tells %d pairs that are not in order, or a key twice", len(found))
	}
	return all
}

// short is some texts, each told by its beginning.
func short(list []string) string {
	var b strings.Builder
	for _, s := range list[:min(12, len(list))] {
		b.WriteString(" " + strconv.Quote(s[:min(12, len(s))]))
	}
	return strconv.Itoa(len(list)) + " pairs:" + b.String()
}

// has: the tree has just these pairs, whoever is asked.
func has(t *testing.T, what string, x *tree.Tree, want pairs) {
	t.Helper()
	if got := scanned(t, x); !maps.Equal(got, want) {
		t.Fatalf("%s: the tree has %s, want %s", what, short(got.told("", len(got))), short(want.told("", len(want))))
	}
	for k, v := range want {
		if got, err := x.Get([]byte(k)); err != nil || string(got) != v {
			t.Fatalf("%s: Get(%q) = %q, %v, want %q", what, k, got, err, v)
		}
	}
}

// some are so many pairs, with keys that tell their number and values of this length.
func some(many, length int) pairs {
	all := pairs{}
	for i := range many {
		all["key "+strconv.Itoa(i)] = text("value "+strconv.Itoa(i)+" ", length)
	}
	return all
}

// text is one of so many bytes that begins like another.
func text(like string, length int) string {
	return strings.Repeat(like, length/len(like)+1)[:length]
}

// ways are all that a crash can do to so many sectors, or some of it, if that is too much.
func ways(sectors int) [][]int {
	if sectors > 4 {
		return someWays(sectors)
	}
	list := [][]int{{}}
	for range sectors {
		var longer [][]int
		for _, raw := range list {
			for c := range 3 {
				longer = append(longer, append(slices.Clone(raw), c))
			}
		}
		list = longer
	}
	return list
}

// someWays leave all sectors but one alike.
func someWays(sectors int) [][]int {
	var list [][]int
	for most := range 3 {
		list = append(list, slices.Repeat([]int{most}, sectors))
		for other := range sectors {
			for _, c := range []int{(most + 1) % 3, (most + 2) % 3} {
				raw := slices.Repeat([]int{most}, sectors)
				raw[other] = c
				list = append(list, raw)
			}
		}
	}
	return list
}
