package tree_test

import (
	"maps"
	"slices"
	"strconv"
	"testing"

	"daybook/api"
	"daybook/disk"
	"daybook/tree"
)

const spoiltSectors = 40

// old and now are what the tree has that is spoilt: as it was saved, and as it is saved.
func old() pairs { return some(25, 30) }

func now() pairs {
	all := some(40, 21)
	for i := range 12 {
		delete(all, "key "+strconv.Itoa(i*3))
	}
	return all
}

// saved is a tree that is saved with what is now in it; and a copy of the disk from when it had what was old.
func saved(t *testing.T) (d, was *disk.Disk) {
	t.Helper()
	d, x := fresh(t, spoiltSectors)
	put(t, x, old())
	done(t, "P11: Save", x.Save())
	was = d.Copy()
	for _, k := range old().keys() {
		if _, there := now()[k]; !there {
			done(t, "P10: Delete", x.Delete([]byte(k)))
		}
	}
	put(t, x, now())
	done(t, "P11: Save", x.Save())
	return d, was
}

// wantTruthOrErrForm uses a tree where somebody has written: what it tells without an error is what is so.
func wantTruthOrErrForm(t *testing.T, what string, d *disk.Disk) (harmed bool) {
	t.Helper()
	x, err := tree.Open(d, 0, spoiltSectors)
	if err != nil {
		if err != api.ErrForm || x != nil {
			t.Errorf("P9: %s: Open = %v, %v, want ErrForm", what, x, err)
		}
		return true
	}
	all := now()
	for k, v := range all {
		got, err := x.Get([]byte(k))
		harmed = harmed || err != nil
		if err != nil && (err != api.ErrForm || got != nil) || err == nil && string(got) != v {
			t.Errorf("P10: %s: Get(%q) = %q, %v, want %q or ErrForm", what, k, got, err, v)
		}
	}
	found, err := x.Scan(nil, 1000)
	if err != nil && (err != api.ErrForm || found != nil) || err == nil && !slices.Equal(list(found), all.told("", 1000)) {
		t.Errorf("P10: %s: Scan = %s, %v", what, short(list(found)), err)
	}
	if harmed != (err != nil) {
		t.Errorf("P10: %s: Scan: %v; is there a key that cannot be told: %v", what, err, harmed)
	}
	return change(t, what, x, all) || harmed
}

// change puts and deletes in such a tree: where that is answered without an error it is done, else nothing has changed.
func change(t *testing.T, what string, x *tree.Tree, all pairs) (harmed bool) {
	t.Helper()
	for i, k := range append(all.keys(), "a", "key 15x", "z") {
		var err error
		if i%3 == 0 && all[k] != "" {
			if err = x.Delete([]byte(k)); err == nil {
				delete(all, k)
			}
		} else if err = x.Put([]byte(k), []byte(text("new", 60))); err == nil {
			all[k] = text("new", 60)
		}
		harmed = harmed || err == api.ErrForm
		if err != nil && err != api.ErrForm && err != api.ErrFull {
			t.Errorf("P10: %s: a change of %q: %v", what, k, err)
		}
		v, err := x.Get([]byte(k))
		if want, there := all[k]; err == nil && string(v) != want || err == api.ErrNone && there {
			t.Errorf("P10: %s: Get(%q) = %q, %v behind a change", what, k, v, err)
		}
	}
	if found, err := x.Scan(nil, 1000); err == nil && !slices.Equal(list(found), all.told("", 1000)) {
		t.Errorf("P10: %s: Scan behind changes = %s", what, short(list(found)))
	}
	done(t, "P11: Save", x.Save())
	return harmed
}

// wantHarm: of all that was tried, enough did harm for the test to say something.
func wantHarm(t *testing.T, harms map[int]bool) {
	t.Helper()
	if len(harms) < 6 {
		t.Errorf("it made a difference in the sectors %v only", slices.Sorted(maps.Keys(harms)))
	}
}

func TestTurnedBytes(t *testing.T) {
	d, _ := saved(t)
	harms := map[int]bool{}
	for i := range spoiltSectors {
		for at := i % 3; at < disk.Size; at += 1 + at/20*3 {
			c := d.Copy()
			c.Spoil(i, at, 1<<(at%8))
			if wantTruthOrErrForm(t, "byte "+strconv.Itoa(at)+" of sector "+strconv.Itoa(i)+" is turned", c) {
				harms[i] = true
			}
		}
	}
	wantHarm(t, harms)
}

func TestBrokenSectors(t *testing.T) {
	d, _ := saved(t)
	harms := map[int]bool{}
	for i := 2; i < spoiltSectors; i++ { // a head may be broken: see below
		c := d.Copy()
		c.Write(i, "")
		c.Crash([]int{2})
		if wantTruthOrErrForm(t, "sector "+strconv.Itoa(i)+" is broken", c) {
			harms[i] = true
		}
	}
	wantHarm(t, harms)
}

// A crash in Save may break a head, but not both, and leads back to the tree that was saved ahead of it.
func TestBrokenHeads(t *testing.T) {
	d, _ := saved(t)
	for both := 1; both < 4; both++ {
		c := d.Copy()
		for slot := range 2 {
			if both>>slot&1 > 0 {
				c.Write(slot, "")
			}
		}
		c.Crash([]int{2, 2})
		x, err := tree.Open(c, 0, spoiltSectors)
		switch {
		case both == 3 && (err != api.ErrForm || x != nil):
			t.Errorf("P9: Open where both heads are broken = %v, %v, want ErrForm", x, err)
		case both < 3 && err != nil:
			t.Errorf("P11: Open where head %d is broken: %v", both-1, err)
		case err == nil:
			if l, err := x.Scan(nil, 1000); err != nil && err != api.ErrForm || err == nil && !slices.Equal(list(l), now().told("", 1000)) && !slices.Equal(list(l), old().told("", 1000)) {
				t.Errorf("P10: Scan where head %d is broken = %s, %v", both-1, short(list(l)), err)
			}
		}
	}
}

// Each sector laid over each other one: pages that lead to each other, and to themselves.
func TestSectorsLaidOverOthers(t *testing.T) {
	d, was := saved(t)
	for name, from := range map[string]*disk.Disk{"": d, "of before ": was} {
		harms := map[int]bool{}
		for i := range spoiltSectors {
			for j := range spoiltSectors {
				if i < 2 && i == j { // an older head in its place leads to an older tree
					continue
				}
				c := d.Copy()
				text, _ := from.Read(j)
				c.Write(i, text)
				if wantTruthOrErrForm(t, "sector "+strconv.Itoa(j)+" "+name+"is laid over "+strconv.Itoa(i), c) {
					harms[i] = true
				}
			}
		}
		wantHarm(t, harms)
	}
}

func TestOldHeads(t *testing.T) {
	d, was := saved(t)
	for slot := range 2 {
		c := d.Copy()
		text, _ := was.Read(slot)
		c.Write(slot, text)
		x, err := tree.Open(c, 0, spoiltSectors)
		if err != nil {
			continue
		}
		if l, err := x.Scan(nil, 1000); err == nil && !slices.Equal(list(l), now().told("", 1000)) && !slices.Equal(list(l), old().told("", 1000)) {
			t.Errorf("P10: Scan where head %d is an old one = %s", slot, short(list(l)))
		}
	}
}

// A call looks at no more than it must: what is spoilt elsewhere does not keep it from its answer.
func TestSpoiltElsewhere(t *testing.T) {
	d, _ := saved(t)
	keys := now().keys()
	first, last := keys[0], keys[len(keys)-1]
	harmed, unharmed := 0, 0
	for i := 2; i < spoiltSectors; i++ {
		c := d.Copy()
		c.Spoil(i, 9, 1)
		x := opened(t, c, 0, spoiltSectors)
		if _, err := x.Get([]byte(first)); err == nil {
			if found, err := x.Scan(nil, 1); err != nil || len(found) != 1 {
				t.Errorf("P10: sector %d spoilt: Scan of the first pair tells %d pairs, %v", i, len(found), err)
			}
			continue
		}
		harmed++
		found, err := x.Scan([]byte(last), 5)
		if _, e := x.Get([]byte(last)); e != err {
			t.Errorf("P10: sector %d spoilt: Get: %v, Scan from there on: %v", i, e, err)
		}
		if err != nil {
			continue
		}
		unharmed++
		if len(found) != 1 {
			t.Errorf("P10: sector %d spoilt: Scan from the last key on tells %d pairs", i, len(found))
		}
		if err := x.Delete([]byte(last + "x")); err != api.ErrNone { // it is named ahead of ErrForm
			t.Errorf("P10: sector %d spoilt: Delete of none: %v, want ErrNone", i, err)
		}
	}
	if harmed < 2 || unharmed < 1 {
		t.Errorf("%d sectors did harm to the first key, %d of them none to the last", harmed, unharmed)
	}
}

// What is spoilt while the tree is open is met, too.
func TestSpoiltWhileOpen(t *testing.T) {
	harms := map[int]bool{}
	for i := 2; i < spoiltSectors; i++ {
		d, _ := saved(t)
		x := opened(t, d, 0, spoiltSectors)
		all := now()
		put(t, x, pairs{"key 1": "again", "new": "n"})
		all["key 1"], all["new"] = "again", "n"
		d.Spoil(i, 3, 1)
		found, err := x.Scan(nil, 1000)
		if err != nil && err != api.ErrForm || err == nil && !slices.Equal(list(found), all.told("", 1000)) {
			t.Errorf("P10: sector %d spoilt: Scan = %s, %v", i, short(list(found)), err)
		}
		if err == api.ErrForm {
			harms[i] = true
		}
		change(t, "sector "+strconv.Itoa(i)+" spoilt while the tree is open", x, all)
	}
	wantHarm(t, harms)
}
