package wal_test

import (
	"math"
	"testing"

	"daybook/api"
	"daybook/disk"
	"daybook/wal"
)

func TestNoPlace(t *testing.T) {
	d := disk.New(10)
	for _, c := range [][2]int{
		{0, 3}, {0, 0}, {0, -4}, {3, 3}, {0, 11}, {7, 4}, {10, 4}, {11, 4}, {-1, 4}, {-4, 8}, {-1, 12},
		{math.MaxInt, 4}, {math.MaxInt - 3, 4}, {0, math.MaxInt}, {1, math.MaxInt}, {math.MaxInt, math.MaxInt},
		{math.MinInt, 4}, {math.MinInt, math.MaxInt}, {0, math.MinInt}, {math.MaxInt, math.MinInt}, {1 << 62, 1 << 62},
	} {
		wantNoPlace(t, d, c[0], c[1])
	}
	wantNoPlace(t, nil, 0, 4)
	wantNoPlace(t, nil, 0, 3)
	wantNoPlace(t, disk.New(0), 0, 4)
	wantNoPlace(t, disk.New(3), 0, 4)
	if d.Writes() != 0 || d.Syncs() != 0 {
		t.Error("P1: a call that answered ErrPlace changed the disk")
	}
	d.Die(0)
	wantNoPlace(t, d, 0, 3)
	wantNoPlace(t, d, 7, 4)
}

func wantNoPlace(t *testing.T, d *disk.Disk, first, sectors int) {
	t.Helper()
	if err := wal.Create(d, first, sectors); err != api.ErrPlace {
		t.Errorf("P5: Create(%d, %d): %v, want ErrPlace", first, sectors, err)
	}
	if l, err := wal.Open(d, first, sectors); err != api.ErrPlace || l != nil {
		t.Errorf("P6: Open(%d, %d) = %v, %v, want ErrPlace", first, sectors, l, err)
	}
}

// A log stands wherever there is room, and touches no sector beside its own.
func TestPlaces(t *testing.T) {
	for _, c := range [][2]int{{0, 4}, {0, 10}, {6, 4}, {3, 5}} {
		d := disk.New(10)
		for i := range 10 {
			d.Write(i, "somebody else's")
		}
		first, sectors := c[0], c[1]
		done(t, "P5: Create", wal.Create(d, first, sectors))
		l := opened(t, d, first, sectors)
		has(t, l)
		for i := range 3 {
			fillUp(l, string([]byte{'a', byte(i)}))
			done(t, "P7: Reset", l.Reset())
		}
		for i := range 10 {
			text, ok := d.Read(i)
			if outside := i < first || i >= first+sectors; outside && (!ok || text[:15] != "somebody else's") {
				t.Errorf("P1: a log in %d sectors from %d on wrote into sector %d", sectors, first, i)
			}
		}
	}
}

func TestNoLogThere(t *testing.T) {
	wantNoLog := func(what string, d *disk.Disk, first, sectors int) {
		t.Helper()
		if l, err := wal.Open(d, first, sectors); err != api.ErrForm || l != nil {
			t.Errorf("P6: Open where %s = %v, %v, want ErrForm", what, l, err)
		}
	}
	d := disk.New(20)
	wantNoLog("all is nought", d, 0, 20)
	for i := range 20 {
		d.Write(i, filled("some other text ", 256))
	}
	wantNoLog("another text is", d, 0, 20)
	d.Crash([]int{2, 2, 2, 2, 2, 2, 2, 2, 2, 2, 2, 2, 2, 2, 2, 2, 2, 2, 2, 2})
	wantNoLog("all is broken", d, 0, 20)

	d = disk.New(20)
	done(t, "P5: Create", wal.Create(d, 4, 10))
	l := opened(t, d, 4, 10)
	put(t, l, "one", "two")
	done(t, "P7: Reset", l.Reset())
	put(t, l, "three")
	for _, c := range [][2]int{{4, 9}, {4, 11}, {4, 4}, {5, 9}, {5, 10}, {3, 11}, {3, 10}, {6, 10}, {6, 8}, {0, 10}, {0, 20}} {
		wantNoLog("a log is, but not in these sectors,", d, c[0], c[1])
	}
	has(t, opened(t, d, 4, 10), "three")
}

// One turned bit of a head makes it no head: what is there then is another log or none, never a fault.
func TestSpoiledHeads(t *testing.T) {
	for at := range disk.Size {
		for _, by := range []int{1, 128, 255} {
			d, l := fresh(t, 6)
			put(t, l, "one")
			done(t, "P7: Sync", l.Sync())
			d.Spoil(0, at, by)
			d.Spoil(1, at, by)
			l, err := wal.Open(d, 0, 6)
			if err == nil {
				l.All()
				l.Append([]byte("more"))
				continue
			}
			if err != api.ErrForm || l != nil {
				t.Errorf("P6: Open of a log with byte %d spoiled = %v, %v, want ErrForm", at, l, err)
			}
		}
	}
}

// Whatever byte of whatever sector is spoiled, what Open gives is a beginning of what was there, or an error.
func TestSpoiledParts(t *testing.T) {
	all := []string{"one", filled("two", 401), "three"}
	for sector := 2; sector < 8; sector++ {
		for at := range disk.Size {
			d, l := fresh(t, 8)
			put(t, l, all...)
			done(t, "P7: Sync", l.Sync())
			d.Spoil(sector, at, 1<<(at%8))
			wantBeginning(t, opened(t, d, 0, 8), all)
		}
	}
}

func wantBeginning(t *testing.T, l *wal.Log, of []string) {
	t.Helper()
	got := texts(l)
	if len(got) > len(of) {
		t.Fatalf("P8: All is %s, want a beginning of %s", short(got), short(of))
	}
	has(t, l, of[:len(got)]...)
}

func TestCreateOverWhateverStoodThere(t *testing.T) {
	over := map[string]func(d *disk.Disk){
		"noughts": func(d *disk.Disk) {},
		"a text": func(d *disk.Disk) {
			for i := range 12 {
				d.Write(i, filled("log text ", 256))
			}
		},
		"broken sectors": func(d *disk.Disk) {
			for i := range 12 {
				d.Write(i, "x")
			}
			d.Crash([]int{2, 2, 2, 2, 2, 2, 2, 2, 2, 2, 2, 2})
		},
		"a log":                     func(d *disk.Disk) { fill(d, 2, 8, 1) },
		"a log of many rounds":      func(d *disk.Disk) { fill(d, 2, 8, 9) },
		"a log that begins ahead":   func(d *disk.Disk) { fill(d, 0, 10, 3) },
		"a log that begins within":  func(d *disk.Disk) { fill(d, 3, 8, 3) },
		"a log that begins behind":  func(d *disk.Disk) { fill(d, 4, 8, 3) },
		"a greater log":             func(d *disk.Disk) { fill(d, 2, 10, 4) },
		"a smaller log":             func(d *disk.Disk) { fill(d, 2, 5, 4) },
		"logs over logs":            func(d *disk.Disk) { fill(d, 2, 8, 6); fill(d, 3, 8, 2); fill(d, 0, 7, 4) },
		"parts without their heads": func(d *disk.Disk) { fill(d, 2, 8, 6); d.Write(2, ""); d.Write(3, "") },
		"parts of a first epoch":    func(d *disk.Disk) { fill(d, 2, 8, 1); d.Write(2, ""); d.Write(3, "") },
	}
	for name, prepare := range over {
		d := disk.New(12)
		prepare(d)
		if err := wal.Create(d, 2, 8); err != nil {
			t.Fatalf("P5: Create over %s: %v", name, err)
		}
		d.Crash([]int{1, 2, 0, 1, 2, 0, 1, 2, 0}) // all of it is safe, so this changes nothing
		for round := range 12 {
			l := opened(t, d, 2, 8)
			if len(l.All()) != 0 {
				t.Errorf("P5: the log over %s has %s in round %d", name, short(texts(l)), round)
			}
			put(t, l, "one")
			done(t, "P7: Sync", l.Sync())
			has(t, opened(t, d, 2, 8), "one")
			done(t, "P7: Reset", l.Reset())
		}
	}
}

// fill makes a log, and lets it be full and empty again so many times; in the end it is full.
func fill(d *disk.Disk, first, sectors, rounds int) {
	wal.Create(d, first, sectors)
	l, _ := wal.Open(d, first, sectors)
	for round := range rounds {
		if round > 0 {
			l.Reset()
		}
		fillUp(l, "old")
	}
	l.Sync()
}

// When a log is made where a greater or a smaller one was, that one is no more.
func TestCreateEndsAnotherLog(t *testing.T) {
	for _, sectors := range []int{5, 12} {
		d := disk.New(12)
		fill(d, 0, 8, 2)
		done(t, "P5: Create", wal.Create(d, 0, sectors))
		if l, err := wal.Open(d, 0, 8); err != api.ErrForm || l != nil {
			t.Errorf("P6: Open of a log over which another was made = %v, %v, want ErrForm", l, err)
		}
	}
}

// Open hangs on what is on the disk, not on whose disk it is.
func TestCopiedDisk(t *testing.T) {
	d, l := fresh(t, 9)
	put(t, l, "one", "two")
	c := d.Copy()
	put(t, l, "three")
	has(t, opened(t, c, 0, 9), "one", "two")
	has(t, opened(t, d, 0, 9), "one", "two", "three")
}

func TestDeadDisk(t *testing.T) {
	d, l := fresh(t, 6)
	put(t, l, "one")
	done(t, "P7: Sync", l.Sync())
	d.Die(0)
	if err := wal.Create(d, 0, 6); err != api.ErrDisk {
		t.Errorf("P5: Create on a dead disk: %v, want ErrDisk", err)
	}
	if l, err := wal.Open(d, 0, 6); err != api.ErrDisk || l != nil {
		t.Errorf("P6: Open on a dead disk = %v, %v, want ErrDisk", l, err)
	}
	d.Crash(nil)
	has(t, opened(t, d, 0, 6), "one")
}

// lost is a disk with a log of which something in the middle was lost and later sectors were kept, so that Open has something to write.
func lost(t *testing.T) *disk.Disk {
	t.Helper()
	d, l := fresh(t, 10)
	put(t, l, "one")
	done(t, "P7: Sync", l.Sync())
	put(t, l, "two", filled("three", 300), "four")
	d.Crash([]int{0, 1, 1, 1})
	return d
}

func TestDiskDiesInOpen(t *testing.T) {
	for step := 1; ; step++ {
		d := lost(t)
		d.Die(step)
		l, err := wal.Open(d, 0, 10)
		if err == nil {
			has(t, l, "one")
			if step < 2 {
				t.Error("P8: Open has made sure of nothing")
			}
			return
		}
		if err != api.ErrDisk || l != nil {
			t.Fatalf("P6: Open on a disk that dies at step %d = %v, %v, want ErrDisk", step, l, err)
		}
	}
}

// Who only opens a log has changed nothing, whatever a crash has left there.
func TestOpenWritesNothing(t *testing.T) {
	d := lost(t)
	writes := d.Writes()
	has(t, opened(t, d, 0, 10), "one")
	if d.Writes() != writes {
		t.Errorf("P6: Open has written %d sectors", d.Writes()-writes)
	}
}

func TestDiskDiesInCreate(t *testing.T) {
	steps := 0
	for step := 1; ; step++ {
		d := disk.New(6)
		d.Die(step)
		err := wal.Create(d, 0, 6)
		if err == nil {
			break
		}
		if err != api.ErrDisk {
			t.Fatalf("P5: Create on a disk that dies at step %d: %v, want ErrDisk", step, err)
		}
		steps++
	}
	if steps < 2 {
		t.Errorf("P5: Create took %d steps; an empty log is not safe without a Write and a Sync", steps)
	}
}

// A sector that is broken is no failure of the disk.
func TestBrokenSectorsAreNoErrDisk(t *testing.T) {
	d := disk.New(6)
	for i := range 6 {
		d.Write(i, "x")
	}
	d.Crash([]int{2, 2, 2, 2, 2, 2})
	done(t, "P5: Create over broken sectors", wal.Create(d, 0, 6))
	l := opened(t, d, 0, 6)
	put(t, l, "one", filled("two", 500))
	done(t, "P7: Sync", l.Sync())
	d.Crash(nil)
	has(t, opened(t, d, 0, 6), "one", filled("two", 500))
}

// What a crash in Create brings back from behind a wipe that was not safe is no payload, however often the log is made empty.
func TestWipeThatWasNotSafe(t *testing.T) {
	d := disk.New(8)
	fill(d, 0, 8, 9)
	for i := range 8 {
		d.Write(i, "")
	}
	d.Die(2)
	if err := wal.Create(d, 0, 8); err != api.ErrDisk {
		t.Fatalf("P5: Create on a disk that dies: %v, want ErrDisk", err)
	}
	d.Crash([]int{1, 1, 0, 0, 0, 0, 0, 0})
	for round := range 20 {
		l := opened(t, d, 0, 8)
		if len(l.All()) != 0 {
			t.Fatalf("P5: the log has %s in round %d", short(texts(l)), round)
		}
		done(t, "P7: Reset", l.Reset())
	}
}
