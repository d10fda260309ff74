package wal_test

import (
	"slices"
	"strconv"
	"testing"

	"daybook/api"
	"daybook/disk"
	"daybook/wal"
)

func TestSizes(t *testing.T) {
	d, l := fresh(t, 30)
	wantSize := func(when string) {
		t.Helper()
		for _, p := range [][]byte{nil, {}, make([]byte, 2001), make([]byte, 4000), make([]byte, 100000)} {
			if err := l.Append(p); err != api.ErrSize {
				t.Errorf("P7: Append of %d bytes %s: %v, want ErrSize", len(p), when, err)
			}
		}
	}
	wantSize("into an empty log")
	has(t, l)
	put(t, l, "x", filled("long", 2000))
	has(t, l, "x", filled("long", 2000))
	fillUp(l, "more")
	wantSize("into a full log")
	d.Die(0)
	wantSize("on a dead disk")
	l.Sync()
	wantSize("behind ErrDisk")
}

// sectorsOf is what P7 says that a payload takes.
func sectorsOf(size int) int {
	n := size / 200
	if size%200 > 0 {
		n++
	}
	return n
}

// For each size and log: as many payloads as the promised room has are taken.
func TestRoom(t *testing.T) {
	for _, size := range []int{1, 199, 200, 201, 399, 400, 401, 600, 1801, 1999, 2000} {
		for _, sectors := range []int{4, 5, 6, 7, 8, 13, 14, 23, 40} {
			d, l := fresh(t, sectors)
			for range 3 { // the room is there again behind a Reset
				var want []string
				for n := 1; n*sectorsOf(size) <= sectors-3; n++ {
					p := filled(strconv.Itoa(n)+" ", size)
					if err := l.Append([]byte(p)); err != nil {
						t.Fatalf("P7: payload %d of %d bytes in a log of %d sectors: %v", n, size, sectors, err)
					}
					want = append(want, p)
				}
				has(t, l, want...)
				done(t, "P7: Sync", l.Sync())
				has(t, opened(t, d, 0, sectors), want...)
				done(t, "P7: Reset", l.Reset())
			}
		}
	}
}

// The room is one for all: payloads of all sizes, up to the last sector that is promised.
func TestMixedRoom(t *testing.T) {
	sizes := []int{1, 199, 200, 201, 400, 2000, 3, 1000, 200, 1}
	least := 3
	for _, size := range sizes {
		least += sectorsOf(size)
	}
	d, l := fresh(t, least)
	var want []string
	for i, size := range sizes {
		want = append(want, filled(strconv.Itoa(i)+" ", size))
	}
	put(t, l, want...)
	has(t, l, want...)
	done(t, "P7: Sync", l.Sync())
	d.Crash(nil)
	has(t, opened(t, d, 0, least), want...)
}

func TestFull(t *testing.T) {
	for _, sectors := range []int{4, 5, 6, 9, 20} {
		for _, size := range []int{1, 200, 201, 2000} {
			d, l := fresh(t, sectors)
			var want []string
			var err error
			for n := 0; n < 100; n++ {
				p := filled(strconv.Itoa(n)+" ", size)
				if err = l.Append([]byte(p)); err != nil {
					break
				}
				want = append(want, p)
			}
			if err != api.ErrFull {
				t.Fatalf("P7: Append into a full log of %d sectors: %v, want ErrFull", sectors, err)
			}
			has(t, l, want...)
			writes, syncs := d.Writes(), d.Syncs()
			if err := l.Append([]byte(filled("again", size))); err != api.ErrFull || d.Writes() != writes || d.Syncs() != syncs {
				t.Errorf("P7: Append into a full log: %v, want ErrFull and nothing changed", err)
			}
			done(t, "P7: Sync of a full log", l.Sync())
			d.Crash(nil)
			l = opened(t, d, 0, sectors)
			has(t, l, want...)
			if err := l.Append([]byte(filled("again", size))); err != api.ErrFull {
				t.Errorf("P7: Append into a full log that was opened: %v, want ErrFull", err)
			}
			done(t, "P7: Reset of a full log", l.Reset())
			has(t, l)
		}
	}
}

// A payload for which there is no room does not keep a smaller one out.
func TestSmallerOneFits(t *testing.T) {
	_, l := fresh(t, 6)
	put(t, l, "one")
	if err := l.Append(make([]byte, 2000)); err != api.ErrFull {
		t.Errorf("P7: Append of 2000 bytes into a log of 6 sectors: %v, want ErrFull", err)
	}
	put(t, l, "two", "three")
	has(t, l, "one", "two", "three")
}

func TestAllBytes(t *testing.T) {
	var want []string
	for c := range 256 {
		want = append(want, string([]byte{byte(c)}), filled(string([]byte{byte(c), 0}), 205))
	}
	want = append(want, string(make([]byte, 2000)), string(make([]byte, 1)))
	d, l := fresh(t, 1000)
	put(t, l, want...)
	has(t, l, want...)
	done(t, "P7: Sync", l.Sync())
	d.Crash(nil)
	has(t, opened(t, d, 0, 1000), want...)
}

// A payload that looks like a sector of the log is a payload.
func TestPayloadsThatLookLikeSectors(t *testing.T) {
	d, l := fresh(t, 40)
	put(t, l, "inner", filled("inner two", 300))
	var want []string
	for i := range 5 {
		text, _ := d.Read(i)
		want = append(want, text, text[:200], text[56:])
	}
	done(t, "P7: Reset", l.Reset())
	put(t, l, want...)
	done(t, "P7: Sync", l.Sync())
	d.Crash(nil)
	has(t, opened(t, d, 0, 40), want...)
}

func TestEmptyLog(t *testing.T) {
	d, l := fresh(t, 4)
	has(t, l)
	done(t, "P7: Sync", l.Sync())
	done(t, "P7: Reset", l.Reset())
	has(t, l)
	d.Crash(nil)
	has(t, opened(t, d, 0, 4))
}

// What was appended is what the log has even if it was not made safe, as long as there is no crash; and Open makes it safe.
func TestOpenWithoutCrash(t *testing.T) {
	for _, raw := range ways(4) {
		d, l := fresh(t, 12)
		put(t, l, "one", filled("two", 333), "three")
		l = opened(t, d, 0, 12)
		has(t, l, "one", filled("two", 333), "three")
		d.Crash(raw)
		has(t, opened(t, d, 0, 12), "one", filled("two", 333), "three")
	}
}

func TestSyncMakesSafe(t *testing.T) {
	for _, raw := range ways(3) {
		d, l := fresh(t, 12)
		put(t, l, "one")
		done(t, "P7: Sync", l.Sync())
		put(t, l, "two", "three")
		done(t, "P7: Sync", l.Sync())
		d.Crash(raw)
		has(t, opened(t, d, 0, 12), "one", "two", "three")
	}
}

func TestResetMakesSafe(t *testing.T) {
	for _, raw := range ways(4) {
		d, l := fresh(t, 12)
		put(t, l, "one")
		done(t, "P7: Sync", l.Sync())
		put(t, l, "two", "three")
		done(t, "P7: Reset", l.Reset())
		d.Crash(raw)
		has(t, opened(t, d, 0, 12))
	}
}

func TestManyRounds(t *testing.T) {
	for _, sectors := range []int{4, 5, 7, 12} {
		d, l := fresh(t, sectors)
		for round := range 600 {
			var want []string
			for n := range (sectors - 3) * (round % 3) / 2 {
				want = append(want, filled(strconv.Itoa(round)+"/"+strconv.Itoa(n)+" ", 1+(round*37+n)%200))
			}
			put(t, l, want...)
			has(t, l, want...)
			done(t, "P7: Sync", l.Sync())
			if round%7 == 0 {
				d.Crash(nil)
				l = opened(t, d, 0, sectors)
				has(t, l, want...)
			}
			done(t, "P7: Reset", l.Reset())
			has(t, l)
		}
	}
}

// deadAt is a log that has two payloads, on a disk that dies at a step from now on.
func deadAt(t *testing.T, step int) (*disk.Disk, *wal.Log) {
	t.Helper()
	d, l := fresh(t, 12)
	put(t, l, "one")
	done(t, "P7: Sync", l.Sync())
	put(t, l, "two")
	d.Die(step)
	return d, l
}

func TestDiskDies(t *testing.T) {
	for name, call := range map[string]func(l *wal.Log) error{
		"Append": func(l *wal.Log) error { return l.Append([]byte(filled("three", 700))) },
		"Sync":   func(l *wal.Log) error { return l.Sync() },
		"Reset":  func(l *wal.Log) error { return l.Reset() },
	} {
		steps := 0
		for step := 0; ; step++ {
			d, l := deadAt(t, step)
			err := call(l)
			if err == nil {
				break
			}
			steps++
			if err != api.ErrDisk {
				t.Fatalf("P7: %s on a disk that dies at step %d: %v, want ErrDisk", name, step, err)
			}
			wantOver(t, l, "one", "two")
			d.Crash([]int{1, 1, 1, 1, 1}) // the disk is in order again; the log is not
			wantOver(t, l, "one", "two")
		}
		if steps < 2 {
			t.Errorf("P7: %s: the disk was hardly asked", name)
		}
	}
}

// wantOver: this log has answered ErrDisk.
func wantOver(t *testing.T, l *wal.Log, want ...string) {
	t.Helper()
	for _, p := range [][]byte{{1}, make([]byte, 200), make([]byte, 201)} {
		if err := l.Append(p); err != api.ErrDisk {
			t.Errorf("P7: Append behind ErrDisk: %v, want ErrDisk", err)
		}
	}
	if err := l.Sync(); err != api.ErrDisk {
		t.Errorf("P7: Sync behind ErrDisk: %v, want ErrDisk", err)
	}
	if err := l.Reset(); err != api.ErrDisk {
		t.Errorf("P7: Reset behind ErrDisk: %v, want ErrDisk", err)
	}
	if err := l.Append(nil); err != api.ErrSize {
		t.Errorf("P7: Append of no bytes behind ErrDisk: %v, want ErrSize", err)
	}
	has(t, l, want...)
}

// ErrFull is named ahead of ErrDisk.
func TestFullAndDead(t *testing.T) {
	d, l := fresh(t, 6)
	fillUp(l, "x")
	want := texts(l)
	d.Die(0)
	for range 2 {
		if err := l.Append([]byte("y")); err != api.ErrFull {
			t.Errorf("P7: Append into a full log on a dead disk: %v, want ErrFull", err)
		}
		if err := l.Sync(); err != api.ErrDisk {
			t.Errorf("P7: Sync on a dead disk: %v, want ErrDisk", err)
		}
	}
	if !slices.Equal(texts(l), want) {
		t.Error("P7: All is not what it was")
	}
}

// A log that has answered ErrDisk does not touch the disk again: another one may be at work there.
func TestOverIsOver(t *testing.T) {
	d, old := deadAt(t, 1)
	old.Sync()
	d.Crash(nil)
	l := opened(t, d, 0, 12)
	put(t, l, "anew")
	writes, syncs := d.Writes(), d.Syncs()
	old.Append([]byte("x"))
	old.Sync()
	old.Reset()
	if d.Writes() != writes || d.Syncs() != syncs {
		t.Error("P7: a log that has answered ErrDisk went on")
	}
	has(t, l, "one", "anew")
}
