package tree_test

import (
	"strconv"
	"testing"

	"daybook/api"
	"daybook/disk"
	"daybook/tree"
)

// calls are those that ask the disk, by name.
func calls() map[string]func(x *tree.Tree) error {
	return map[string]func(x *tree.Tree) error{
		"Get":             func(x *tree.Tree) error { _, err := x.Get([]byte("key 3")); return err },
		"Get of none":     func(x *tree.Tree) error { _, err := x.Get([]byte("none")); return err },
		"Put":             func(x *tree.Tree) error { return x.Put([]byte("key 3"), []byte("x")) },
		"Put of a new":    func(x *tree.Tree) error { return x.Put([]byte("key 3x"), make([]byte, 100)) },
		"Delete":          func(x *tree.Tree) error { return x.Delete([]byte("key 3")) },
		"Delete of none":  func(x *tree.Tree) error { return x.Delete([]byte("none")) },
		"Scan":            func(x *tree.Tree) error { _, err := x.Scan(nil, 1000); return err },
		"Scan of nothing": func(x *tree.Tree) error { _, err := x.Scan(nil, 0); return err },
		"Save":            func(x *tree.Tree) error { return x.Save() },
	}
}

// wantOver: this tree has answered ErrDisk, and asks the disk no more.
func wantOver(t *testing.T, when string, d *disk.Disk, x *tree.Tree) {
	t.Helper()
	asked := d.Reads() + d.Writes() + d.Syncs()
	for name, call := range calls() {
		if err := call(x); err != api.ErrDisk {
			t.Errorf("P10: %s behind ErrDisk, %s: %v, want ErrDisk", name, when, err)
		}
	}
	if v, err := x.Get([]byte("key 3")); v != nil {
		t.Errorf("P1: Get = %q, %v", v, err)
	}
	if l, err := x.Scan(nil, 3); l != nil {
		t.Errorf("P1: Scan = %v, %v", l, err)
	}
	wantNoKeys(t, "behind ErrDisk", x)
	if d.Reads()+d.Writes()+d.Syncs() != asked {
		t.Errorf("P10: a tree that has answered ErrDisk, %s, went on", when)
	}
}

// aTree has so many pairs, of which some are saved and some are not.
func aTree(t *testing.T, count int) (*disk.Disk, *tree.Tree) {
	t.Helper()
	d, x := fresh(t, 100)
	put(t, x, some(count, 20))
	done(t, "P11: Save", x.Save())
	put(t, x, some(count/2, 15))
	return d, x
}

func TestDeadDisk(t *testing.T) {
	for _, count := range []int{0, 1, 5, 50} {
		for name, call := range calls() {
			d, x := aTree(t, count)
			d.Die(0)
			if err := call(x); err != api.ErrDisk {
				t.Errorf("P10: %s of a tree of %d pairs on a dead disk: %v, want ErrDisk", name, count, err)
			}
			wantOver(t, "on a dead disk", d, x)
			d.Crash([]int{1, 1, 1, 1, 1, 1}) // the disk is in order again; the tree is not
			wantOver(t, "behind a crash", d, x)
			has(t, "P11: opened anew", opened(t, d, 0, 100), some(count, 20))
		}
	}
}

// Each step at which the disk may die in a call that changes something.
func TestDiskDies(t *testing.T) {
	for _, name := range []string{"Put", "Put of a new", "Delete", "Save"} {
		call := calls()[name]
		for _, count := range []int{5, 50} {
			steps := 0
			for ; ; steps++ {
				d, x := aTree(t, count)
				d.Die(steps)
				err := call(x)
				if err == nil {
					break
				}
				when := "in step " + strconv.Itoa(steps) + " of " + name
				if err != api.ErrDisk {
					t.Fatalf("P10: the disk dies %s: %v, want ErrDisk", when, err)
				}
				wantOver(t, when, d, x)
			}
			if steps < 2 {
				t.Errorf("P10: %s: the disk was hardly asked", name)
			}
		}
	}
}

// A call that needs nothing of the disk that it refuses is answered.
func TestDiskThatIsToDie(t *testing.T) {
	d, x := aTree(t, 50)
	d.Die(1)
	for _, name := range []string{"Get", "Scan", "Scan of nothing"} {
		done(t, "P10: "+name+" on a disk that is to die", calls()[name](x))
	}
	for _, name := range []string{"Get of none", "Delete of none"} {
		if err := calls()[name](x); err != api.ErrNone {
			t.Errorf("P10: %s on a disk that is to die: %v, want ErrNone", name, err)
		}
	}
}

// ErrFull is told ahead of the first step that changes something: a disk that would fail then has not failed.
func TestFullOnADiskThatIsToDie(t *testing.T) {
	d, x := fresh(t, 30)
	all := pairs{}
	for i := 0; ; i++ {
		k := strconv.Itoa(i)
		if err := x.Put([]byte(k), make([]byte, 100)); err != nil {
			break
		}
		all[k] = string(make([]byte, 100))
	}
	done(t, "P11: Save", x.Save())
	writes := d.Writes()
	d.Die(1)
	for range 3 {
		if err := x.Put([]byte("one more"), make([]byte, 100)); err != api.ErrFull {
			t.Errorf("P10: Put into a full tree on a disk that is to die: %v, want ErrFull", err)
		}
		has(t, "P1: behind ErrFull", x, all)
	}
	if d.Writes() != writes {
		t.Error("P1: ErrFull was answered, and something was written")
	}
}
