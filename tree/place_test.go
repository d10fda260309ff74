package tree_test

import (
	"math"
	"slices"
	"strconv"
	"strings"
	"testing"

	"daybook/api"
	"daybook/disk"
	"daybook/numbers"
	"daybook/sums"
	"daybook/tree"
	"daybook/wal"
)

// texts is all that can be read on a disk.
func texts(d *disk.Disk) []string {
	var list []string
	for i := range d.Sectors() {
		text, ok := d.Read(i)
		list = append(list, text+strconv.FormatBool(ok))
	}
	return list
}

func TestNoPlace(t *testing.T) {
	const most, least = math.MaxInt, math.MinInt
	d := disk.New(40)
	done(t, "P9: Create", tree.Create(d, 0, 40))
	before := strings.Join(texts(d), "")
	dead := disk.New(40)
	dead.Die(0)
	for _, c := range []struct {
		d              *disk.Disk
		first, sectors int
	}{
		{nil, 0, 16}, {nil, 0, 0}, {nil, -1, most},
		{d, 0, 15}, {d, 0, 1}, {d, 0, 0}, {d, 0, -1}, {d, 0, -16}, {d, 0, least}, {d, 5, least}, {d, 25, 15},
		{d, 0, 41}, {d, 1, 40}, {d, 25, 16}, {d, 40, 16}, {d, 41, 16}, {d, 0, 4096}, {d, 0, most},
		{d, -1, 16}, {d, -1, 40}, {d, -1, 41}, {d, -16, 16}, {d, least, 16}, {d, least, most}, {d, least, least},
		{d, most, 16}, {d, most - 15, 16}, {d, most - 16, 16}, {d, most, most}, {d, 1, most}, {d, 40, most - 39}, {d, most, least},
		{disk.New(15), 0, 15}, {disk.New(0), 0, 16}, {disk.New(15), 0, 16},
		{dead, 0, 15}, {dead, 30, 16}, {dead, -1, 16}, // ErrPlace is named first
	} {
		if err := tree.Create(c.d, c.first, c.sectors); err != api.ErrPlace {
			t.Errorf("P9: Create(%d, %d): %v, want ErrPlace", c.first, c.sectors, err)
		}
		if x, err := tree.Open(c.d, c.first, c.sectors); err != api.ErrPlace || x != nil {
			t.Errorf("P9: Open(%d, %d) = %v, %v, want ErrPlace", c.first, c.sectors, x, err)
		}
	}
	if strings.Join(texts(d), "") != before {
		t.Error("P1: ErrPlace was answered, and the disk is not what it was")
	}
}

// The places at the edges are places; what lies beside one is not touched.
func TestPlaces(t *testing.T) {
	for _, c := range [][3]int{{16, 0, 16}, {17, 1, 16}, {40, 0, 40}, {40, 24, 16}, {40, 7, 20}, {disk.Most, disk.Most - 16, 16}, {disk.Most, 0, disk.Most}} {
		d := disk.New(c[0])
		for i := range c[0] {
			d.Write(i, "mine "+strconv.Itoa(i))
		}
		d.Sync()
		done(t, "P9: Create", tree.Create(d, c[1], c[2]))
		x := opened(t, d, c[1], c[2])
		has(t, "P9: a new tree", x, nil)
		all := some(15, 30)
		put(t, x, all)
		done(t, "P11: Save", x.Save())
		has(t, "P9: opened", opened(t, d, c[1], c[2]), all)
		for i := range c[0] {
			if text, _ := d.Read(i); (i < c[1] || i >= c[1]+c[2]) && text[:len("mine "+strconv.Itoa(i))] != "mine "+strconv.Itoa(i) {
				t.Errorf("P1: sector %d is none of the tree's, and was written", i)
			}
		}
	}
}

func TestTwoTreesOnOneDisk(t *testing.T) {
	d := disk.New(80)
	done(t, "P9: Create", tree.Create(d, 0, 40))
	done(t, "P9: Create", tree.Create(d, 40, 40))
	one, two := opened(t, d, 0, 40), opened(t, d, 40, 40)
	put(t, one, some(20, 10))
	put(t, two, some(15, 20))
	done(t, "P11: Save", one.Save())
	done(t, "P11: Save", two.Save())
	has(t, "P9: the one", opened(t, d, 0, 40), some(20, 10))
	has(t, "P9: the other", opened(t, d, 40, 40), some(15, 20))
}

// stood are disks with something in the sectors 3 to 34, by what it is.
func stood(t *testing.T) map[string]*disk.Disk {
	t.Helper()
	disks := map[string]*disk.Disk{"nothing": disk.New(40)}
	on := func(name string, work func(d *disk.Disk)) {
		d := disk.New(40)
		work(d)
		disks[name] = d
	}
	for _, c := range [][2]int{{3, 32}, {0, 40}, {2, 32}, {4, 32}, {3, 31}, {3, 33}, {5, 30}} {
		on("a tree at "+strconv.Itoa(c[0])+", "+strconv.Itoa(c[1]), func(d *disk.Disk) {
			done(t, "P9: Create", tree.Create(d, c[0], c[1]))
			x := opened(t, d, c[0], c[1])
			for _, n := range []int{5, 20, 12, 40} {
				put(t, x, some(n, 11))
				done(t, "P11: Save", x.Save())
			}
			put(t, x, some(3, 50)) // not saved, and not safe
		})
		on("a log at "+strconv.Itoa(c[0])+", "+strconv.Itoa(c[1]), func(d *disk.Disk) {
			done(t, "P5: Create", wal.Create(d, c[0], c[1]))
			l, err := wal.Open(d, c[0], c[1])
			done(t, "P6: Open", err)
			done(t, "P7: Append", l.Append([]byte(strings.Repeat("x", 2000))))
			done(t, "P7: Sync", l.Sync())
		})
	}
	on("sectors that are broken", func(d *disk.Disk) {
		for i := range 40 {
			d.Write(i, "x")
		}
		d.Crash(slices.Repeat([]int{2}, 40))
	})
	for _, c := range []string{"\xff", "tree", "\x00\x01", "x", "\x01\x02"} {
		on("sectors full of "+strconv.Quote(c), func(d *disk.Disk) {
			for i := range 40 {
				d.Write(i, text(c, 256))
			}
			d.Sync()
		})
	}
	on("a tree with sectors that are turned", func(d *disk.Disk) {
		done(t, "P9: Create", tree.Create(d, 3, 32))
		for i := range 40 {
			d.Spoil(i, i*6, 1)
		}
	})
	on("a tree that is broken", func(d *disk.Disk) {
		done(t, "P9: Create", tree.Create(d, 3, 32))
		for i := range 40 {
			text, _ := d.Read(i)
			d.Write(i, text)
		}
		d.Crash(slices.Repeat([]int{2}, 40))
	})
	return disks
}

// wantNewTree: there is an empty tree that is safe, and can be used as any other.
func wantNewTree(t *testing.T, what string, d *disk.Disk, first, sectors int) {
	t.Helper()
	d.Crash(nil)
	x := opened(t, d, first, sectors)
	has(t, what, x, nil)
	for _, all := range []pairs{some(7, 20), some(12, 30), some(30, 3)} {
		put(t, x, all)
		has(t, what, x, all)
		done(t, "P11: Save", x.Save())
		d.Crash(nil)
		has(t, what, opened(t, d, first, sectors), all)
		x = opened(t, d, first, sectors)
	}
}

func TestCreateOverWhateverStoodThere(t *testing.T) {
	for what, d := range stood(t) {
		done(t, "P9: Create", tree.Create(d, 3, 32))
		for _, raw := range ways(4) {
			c := d.Copy()
			c.Crash(raw)
			has(t, "P9: Create over "+what, opened(t, c, 3, 32), nil)
		}
		wantNewTree(t, "P9: Create over "+what, d, 3, 32)
		done(t, "P9: Create", tree.Create(d, 3, 32))
		wantNewTree(t, "P9: Create again", d, 3, 32)
	}
}

// headText is the text of a head that tells this generation and leads there.
func headText(first, sectors, slot int, generation uint64, root int, check uint32) string {
	b := numbers.Append([]byte("tree"), uint64(first), 4)
	b = numbers.Append(b, uint64(sectors), 4)
	b = append(b, byte(slot))
	b = numbers.Append(b, generation, 8)
	b = numbers.Append(b, uint64(root), 2)
	b = numbers.Append(b, uint64(check), 4)
	return string(numbers.Append(b, uint64(sums.Check(b)), 4))
}

// greats are numbers at which something may end: around some powers of two, and the greatest.
func greats() []uint64 {
	list := []uint64{math.MaxUint64, math.MaxUint64 - 1, math.MaxUint64 - 2}
	for _, e := range []int{0, 2, 8, 16, 31, 32, 53, 62, 63} {
		list = append(list, 1<<e-1, 1<<e, 1<<e+1)
	}
	return list
}

// Whatever the heads tell that stood there.
func TestCreateOverGreatNumbers(t *testing.T) {
	for _, one := range greats() {
		for _, two := range []uint64{0, 1, one - 2, one - 1, one, one + 1, one + 2, one + 1<<63, one + 1<<63 - 1, one + 1<<63 + 1} {
			for which := 1; which < 4; which++ {
				d := disk.New(20)
				if which&1 > 0 {
					d.Write(2, headText(2, 18, 0, one, 3, 77))
				}
				if which&2 > 0 {
					d.Write(3, headText(2, 18, 1, two, 65535, math.MaxUint32))
				}
				d.Sync()
				what := "P9: over the heads " + strconv.FormatUint(one, 10) + " and " + strconv.FormatUint(two, 10)
				done(t, what, tree.Create(d, 2, 18))
				wantNewTree(t, what, d, 2, 18)
			}
		}
	}
}

// A head that is left of a tree that is no more does not come back when the disk dies in Create.
func TestCreateThatDiesOverOneHead(t *testing.T) {
	for slot := range 2 {
		for _, great := range greats() {
			d := disk.New(20)
			d.Write(2+slot, headText(2, 18, slot, great, 3, 77))
			d.Write(3-slot, "something else")
			d.Sync()
			for die := 1; ; die++ {
				c := d.Copy()
				c.Die(die)
				err := tree.Create(c, 2, 18)
				for _, raw := range ways(2) {
					e := c.Copy()
					e.Crash(raw)
					x, err := tree.Open(e, 2, 18)
					if err == nil {
						has(t, "P9: behind a Create that died", x, nil)
					} else if err != api.ErrForm {
						t.Errorf("P9: Open behind a Create that died: %v", err)
					}
					done(t, "P9: Create", tree.Create(e, 2, 18))
					has(t, "P9: Create again", opened(t, e, 2, 18), nil)
				}
				if err == nil {
					break
				}
			}
		}
	}
}

// A tree goes on whatever number its heads have come to.
func TestSaveOfAGreatNumber(t *testing.T) {
	for _, great := range greats() {
		d := disk.New(64)
		done(t, "P9: Create", tree.Create(d, 0, 64))
		empty, _ := d.Read(2)
		d.Write(0, headText(0, 64, 0, great, 2, sums.Check([]byte(empty))))
		d.Write(1, headText(0, 64, 1, great-1, 2, sums.Check([]byte(empty))))
		d.Sync()
		wantNewTree(t, "P11: from the generation "+strconv.FormatUint(great, 10)+" on", d, 0, 64)
	}
}

// Each step at which the disk may die in Create.
func TestCreateOnADiskThatDies(t *testing.T) {
	for what, d := range stood(t) {
		steps := 0
		for ; ; steps++ {
			c := d.Copy()
			c.Die(steps)
			err := tree.Create(c, 3, 32)
			if err == nil {
				break
			}
			if err != api.ErrDisk || !c.Dead() {
				t.Fatalf("P9: Create over %s, on a disk that dies at step %d: %v, want ErrDisk", what, steps, err)
			}
		}
		if steps < 3 {
			t.Errorf("P9: Create over %s took %d steps only", what, steps)
		}
	}
}

func TestOpenOnADeadDisk(t *testing.T) {
	for what, d := range stood(t) {
		d.Die(0)
		if x, err := tree.Open(d, 3, 32); err != api.ErrDisk || x != nil {
			t.Errorf("P9: Open of %s on a dead disk = %v, %v, want ErrDisk", what, x, err)
		}
	}
}

// Open asks nothing of a disk that a disk which is to die could refuse, or is ErrDisk.
func TestOpenOnADiskThatDies(t *testing.T) {
	d, x := fresh(t, 40)
	put(t, x, some(30, 12))
	done(t, "P11: Save", x.Save())
	for step := 1; step < 5; step++ {
		c := d.Copy()
		c.Die(step)
		x, err := tree.Open(c, 0, 40)
		if err != nil && (err != api.ErrDisk || x != nil) {
			t.Errorf("P9: Open on a disk that dies at step %d = %v, %v", step, x, err)
		}
		if err == nil {
			has(t, "P9: opened", x, some(30, 12))
		}
	}
}

func TestOpenWhereNoTreeIs(t *testing.T) {
	for what, d := range stood(t) {
		if what == "a tree at 3, 32" {
			continue
		}
		before := strings.Join(texts(d), "")
		if x, err := tree.Open(d, 3, 32); err != api.ErrForm || x != nil {
			t.Errorf("P9: Open of %s = %v, %v, want ErrForm", what, x, err)
		}
		if strings.Join(texts(d), "") != before {
			t.Errorf("P1: Open of %s was answered by an error, and has changed the disk", what)
		}
	}
}

// Heads that no tree leaves beside each other are none, and so is one that somebody has written over.
func TestOpenOfHeadsThatNoTreeLeft(t *testing.T) {
	d, x := fresh(t, 40)
	put(t, x, some(10, 12))
	done(t, "P11: Save", x.Save())
	head := [2]string{}
	head[0], _ = d.Read(0)
	head[1], _ = d.Read(1)
	other := headText(0, 40, 1, 77, 2, 5)
	for what, now := range map[string][2]string{
		"turned round":        {head[1], head[0]},
		"the first one twice": {head[0], head[0]},
		"the other one twice": {head[1], head[1]},
		"noughts":             {"", ""},
		"one of noughts":      {head[0], ""},
		"the other noughts":   {"", head[1]},
		"too far apart":       {head[0], other},
		"one of a log":        {"log" + head[0][3:], head[1]},
		"longer":              {head[0][:255] + "x", head[1]},
	} {
		c := d.Copy()
		c.Write(0, now[0])
		c.Write(1, now[1])
		if x, err := tree.Open(c, 0, 40); err != api.ErrForm || x != nil {
			t.Errorf("P9: Open of heads that are %s = %v, %v, want ErrForm", what, x, err)
		}
		done(t, "P9: Create", tree.Create(c, 0, 40))
		wantNewTree(t, "P9: Create over heads that are "+what, c, 0, 40)
	}
	for _, equal := range greats() {
		c := d.Copy()
		c.Write(0, headText(0, 40, 0, equal, 2, 5))
		c.Write(1, headText(0, 40, 1, equal, 2, 5))
		if x, err := tree.Open(c, 0, 40); err != api.ErrForm || x != nil {
			t.Errorf("P9: Open of two heads of one generation = %v, %v, want ErrForm", x, err)
		}
	}
}

// A tree that somebody has laid elsewhere is no tree there.
func TestOpenOfATreeFromElsewhere(t *testing.T) {
	d := disk.New(60)
	done(t, "P9: Create", tree.Create(d, 0, 20))
	for i := range 20 {
		text, _ := d.Read(i)
		d.Write(30+i, text)
	}
	if x, err := tree.Open(d, 30, 20); err != api.ErrForm || x != nil {
		t.Errorf("P9: Open of a tree from elsewhere = %v, %v, want ErrForm", x, err)
	}
	has(t, "P9: where it was", opened(t, d, 0, 20), nil)
}

// What was not saved is not there; and it makes no difference whose disk it is.
func TestOpenGivesWhatWasSavedLast(t *testing.T) {
	d, x := fresh(t, 64)
	saved := pairs{}
	for round := range 20 {
		has(t, "P9: opened", opened(t, d, 0, 64), saved)
		has(t, "P9: opened on a copy", opened(t, d.Copy(), 0, 64), saved)
		now := some(round*5%23, 10+round)
		for _, k := range scanned(t, x).keys() {
			done(t, "P10: Delete", x.Delete([]byte(k)))
		}
		put(t, x, now)
		has(t, "P9: opened ahead of Save", opened(t, d.Copy(), 0, 64), saved)
		has(t, "P10: as it is", x, now)
		done(t, "P11: Save", x.Save())
		saved = now
	}
}
