package store

import (
	"errors"
	"slices"
	"testing"

	"daybook/api"
	"daybook/disk"
	"daybook/tree"
	"daybook/wal"
)

// reads: both ways to read all payloads tell these; nil: they answer ErrForm.
func reads(t *testing.T, what string, s *Store, all, again []string) {
	t.Helper()
	for i, read := range []func() ([]string, error){s.All, s.Again} {
		want := [][]string{all, again}[i]
		got, err := read()
		if want == nil && (!errors.Is(err, api.ErrForm) || got != nil) || want != nil && (err != nil || !slices.Equal(got, want)) {
			t.Errorf("P23: %s: way %d: %d payloads, %v, want %d", what, i, len(got), err, len(want))
		}
	}
}

// All payloads are told as they were laid down: from the log, from the tree, from both, and where both have the same.
func TestAll(t *testing.T) {
	for _, c := range []struct{ stored, from, to int }{{0, 1, 0}, {0, 1, 5}, {4, 1, 0}, {4, 5, 7}, {4, 1, 4}, {4, 3, 6}} {
		d := forged(t, 640, inTree(numbered(1, c.stored)...), inLog(numbered(c.from, c.to)...)...)
		s, _, err := Open(d)
		if err != nil {
			t.Fatal(err)
		}
		want := append([]string{}, texts(numbered(1, max(c.stored, c.to)))...)
		for range 3 {
			reads(t, "at rest", s, want, want)
			if err := s.Add("more"); err != nil {
				t.Fatal(err)
			}
			want = append(want, "more")
			reads(t, "behind Add", s, want, want)
			if err := s.Checkpoint(); err != nil {
				t.Fatal(err)
			}
		}
	}
}

// changed is an open store of four payloads in the tree and two in the log, when somebody has been there.
func changed(t *testing.T, change func(d *disk.Disk, x *tree.Tree)) *Store {
	t.Helper()
	d := forged(t, 640, inTree(numbered(1, 4)...), inLog(numbered(5, 6)...)...)
	s, _, err := Open(d)
	if err != nil {
		t.Fatal(err)
	}
	x, err := tree.Open(d, treeAt, treeSectors(d))
	if err != nil {
		t.Fatal(err)
	}
	change(d, x)
	if err := x.Save(); err != nil {
		t.Fatal(err)
	}
	return s
}

// What is not as it was left is not told, or found when the log is looked at, too.
func TestAllOfWhatIsForged(t *testing.T) {
	put := func(t *testing.T, x *tree.Tree, pairs ...api.Pair) {
		t.Helper()
		for _, p := range pairs {
			if err := x.Put(p.Key, p.Value); err != nil {
				t.Fatal(err)
			}
		}
	}
	fill := func(t *testing.T, d *disk.Disk, entries ...entry) {
		t.Helper()
		if err := wal.Create(d, 0, logSectors); err != nil {
			t.Fatal(err)
		}
		l, err := wal.Open(d, 0, logSectors)
		if err != nil {
			t.Fatal(err)
		}
		for _, e := range entries {
			if err := l.Append(e.bytes()); err != nil {
				t.Fatal(err)
			}
		}
		if err := l.Sync(); err != nil {
			t.Fatal(err)
		}
	}
	all := texts(numbered(1, 6))
	reads(t, "nothing", changed(t, func(d *disk.Disk, x *tree.Tree) {}), all, all)
	reads(t, "a payload less", changed(t, func(d *disk.Disk, x *tree.Tree) { x.Delete(keyOf(4, 0)); x.Delete(keyOf(4, 1)) }), nil, nil)
	reads(t, "no payload", changed(t, func(d *disk.Disk, x *tree.Tree) { x.Delete(keyOf(1, 0)) }), nil, nil)
	reads(t, "those of the log in the tree", changed(t, func(d *disk.Disk, x *tree.Tree) { put(t, x, inTree(numbered(5, 6)...)...) }), all, all)
	reads(t, "one of the log in the tree, but another", changed(t, func(d *disk.Disk, x *tree.Tree) { put(t, x, inTree(entry{5, "five"})...) }), nil, nil)
	reads(t, "one more", changed(t, func(d *disk.Disk, x *tree.Tree) { put(t, x, inTree(numbered(5, 7)...)...) }), nil, nil)
	reads(t, "a log of nothing", changed(t, func(d *disk.Disk, x *tree.Tree) { fill(t, d) }), all, nil)
	reads(t, "a log of one", changed(t, func(d *disk.Disk, x *tree.Tree) { fill(t, d, numbered(5, 5)...) }), all, nil)
	reads(t, "a log of more", changed(t, func(d *disk.Disk, x *tree.Tree) { fill(t, d, numbered(5, 7)...) }), all, nil)
	reads(t, "a log of others", changed(t, func(d *disk.Disk, x *tree.Tree) { fill(t, d, numbered(5, 5)[0], entry{6, "six"}) }), all, nil)
	reads(t, "no log", changed(t, func(d *disk.Disk, x *tree.Tree) { d.Write(0, ""); d.Write(1, "") }), all, nil)

	empty := changed(t, func(d *disk.Disk, x *tree.Tree) {})
	if err := empty.Checkpoint(); err != nil {
		t.Fatal(err)
	}
	x, err := empty.tree()
	if err != nil {
		t.Fatal(err)
	}
	put(t, x, inTree(numbered(7, 7)...)...)
	if err := x.Save(); err != nil {
		t.Fatal(err)
	}
	reads(t, "one more than the store knows of", empty, nil, nil)
}

// Whatever is read, nothing is written: not even where Open would make the log empty.
func TestReadingWritesNothing(t *testing.T) {
	d := disk.New(640)
	if err := Create(d); err != nil {
		t.Fatal(err)
	}
	s, _, err := Open(d)
	if err != nil {
		t.Fatal(err)
	}
	other := forged(t, 640, nil, inLog(numbered(3, 5)...)...)
	for i := range d.Sectors() {
		text, _ := other.Read(i)
		d.Write(i, text)
	}
	writes := d.Writes()
	reads(t, "a log that goes on behind nothing", s, []string{}, nil)
	if d.Writes() != writes {
		t.Error("P23: who only reads has written")
	}
}

// A dead disk, and one that dies: ErrDisk.
func TestAllOfDeadDisk(t *testing.T) {
	for die := range 2 {
		for i, read := range []func(s *Store) ([]string, error){(*Store).All, (*Store).Again} {
			d := forged(t, 640, inTree(numbered(1, 4)...), inLog(numbered(5, 6)...)...)
			s, _, err := Open(d)
			if err != nil {
				t.Fatal(err)
			}
			d.Die(die)
			got, err := read(s)
			if d.Dead() && (!errors.Is(err, api.ErrDisk) || got != nil) || !d.Dead() && (err != nil || len(got) != 6) {
				t.Errorf("P13: way %d, dying at %d: %d payloads, %v", i, die, len(got), err)
			}
		}
	}
}
