package wal_test

import (
	"math"
	"math/rand"
	"slices"
	"strconv"
	"strings"
	"testing"

	"daybook/api"
	"daybook/disk"
	"daybook/wal"
)

// past is what P8 speaks of: what was appended, how much of it is safe, whether it may be gone as a whole, and whether a log must be there.
type past struct {
	appended []string
	safe     int
	emptied  bool
	no       bool // no Create was answered without an error yet
}

// allows tells whether a log may have this behind a crash.
func (p past) allows(got []string) bool {
	if p.emptied && len(got) == 0 {
		return true
	}
	return len(got) >= p.safe && len(got) <= len(p.appended) && slices.Equal(got, p.appended[:len(got)])
}

// bench is a disk with a log in the middle, and its past.
type bench struct {
	d              *disk.Disk
	first, sectors int
	l              *wal.Log
	past           past
	from           int // the disk's writes when all was safe last
}

func (b *bench) unsafe() int { return b.d.Writes() - b.from }

// step does what one word says: Create, Open, Sync, Reset, or Append of the bytes behind a '+' ("+text*length"). It tells whether that was answered without an error.
func (b *bench) step(t *testing.T, word string) bool {
	t.Helper()
	var err error
	switch word {
	case "create":
		err = wal.Create(b.d, b.first, b.sectors)
		b.emptyUnless(err)
	case "reset":
		err = b.l.Reset()
		b.emptyUnless(err)
	case "open":
		b.l, err = wal.Open(b.d, b.first, b.sectors)
		if err == nil {
			b.past = past{appended: texts(b.l), safe: len(b.l.All())}
		}
	case "sync":
		if err = b.l.Sync(); err == nil {
			b.past.safe = len(b.past.appended)
		}
	default:
		p := payload(word)
		if err = b.l.Append([]byte(p)); err == nil || err == api.ErrDisk {
			b.past.appended = append(slices.Clone(b.past.appended), p)
		}
	}
	if err != nil && err != api.ErrDisk {
		t.Fatalf("P1: %s: %v, want nil or ErrDisk", word, err)
	}
	if err == nil && word[0] != '+' {
		b.from = b.d.Writes()
	}
	return err == nil
}

func (b *bench) emptyUnless(err error) {
	if err == nil {
		b.past = past{}
	} else {
		b.past.emptied = true
	}
}

func payload(word string) string {
	name, size, ok := strings.Cut(word[1:], "*")
	if !ok {
		return name
	}
	n, _ := strconv.Atoi(size)
	return filled(name, n)
}

// newBench has no log yet, or (epoch is not 0) one that has come to this epoch, with a payload in it and behind it leftovers of all epochs near.
func newBench(epoch uint64) *bench {
	b := &bench{d: disk.New(22), first: 3, sectors: 16, past: past{no: true}}
	if epoch == 0 {
		return b
	}
	b.d.Write(b.first, stood(epoch, b.first, b.sectors, 0, ""))
	b.d.Write(b.first+2, stood(epoch, b.first, b.sectors, 2, "stood"))
	for i := 3; i < b.sectors; i++ {
		b.d.Write(b.first+i, stood(epoch+uint64(i)-8, b.first, b.sectors, i, "left"))
	}
	b.d.Sync()
	b.from = b.d.Writes()
	b.past = past{appended: []string{"stood"}, safe: 1}
	return b
}

// run goes through a script on a disk that dies at a step, and behind it through each crash.
func run(t *testing.T, script string, epoch uint64, die int, behind func(what string, b *bench)) (finished bool) {
	t.Helper()
	b := newBench(epoch)
	b.d.Die(die)
	finished = true
	for _, word := range strings.Fields(script) {
		if !b.step(t, word) {
			finished = false
			break
		}
	}
	for _, raw := range ways(b.unsafe()) {
		c := *b
		c.d = b.d.Copy()
		c.d.Crash(raw)
		what := script + " from epoch " + strconv.FormatUint(epoch, 10) + " on that dies at " + strconv.Itoa(die)
		for _, k := range raw {
			what += "," + strconv.Itoa(k)
		}
		behind(what, &c)
	}
	return finished
}

// reopen opens the log behind a crash, and holds it against the past; false: there may be none, and is none.
func (b *bench) reopen(t *testing.T, what string) bool {
	t.Helper()
	l, err := wal.Open(b.d, b.first, b.sectors)
	if err == api.ErrForm && b.past.no && l == nil {
		return false
	}
	if err != nil {
		t.Fatalf("P8: %s: Open: %v", what, err)
	}
	if got := texts(l); !b.past.allows(got) {
		t.Fatalf("P8: %s: All is %s; appended %s, %d safe", what, short(got), short(b.past.appended), b.past.safe)
	}
	b.l = l
	b.past = past{appended: texts(l), safe: len(l.All())}
	b.from = b.d.Writes()
	return true
}

const (
	plainScript  = "create open +one sync +two +three*250 sync +four*401 +five sync"
	resetScript  = "create open +one sync +two*300 reset +three sync +four reset +five +six*201 reset"
	createScript = "create open +one +two*220 sync +three create open +four sync create create open +five*390"
	reopenScript = "create open +one*600 open +two open +three reset open +four +five*400"
)

// everyScript runs each script with the disk dying at each step, and never; on a disk without a log, and where the epochs go round or past the half.
func everyScript(t *testing.T, behind func(what string, b *bench)) {
	t.Helper()
	for _, script := range []string{plainScript, resetScript, createScript, reopenScript} {
		for _, epoch := range []uint64{0, math.MaxUint64, math.MaxInt64} {
			for die := 1; ; die++ {
				if run(t, script, epoch, die, behind) {
					break
				}
			}
		}
	}
}

func TestCrashAtEachStep(t *testing.T) {
	everyScript(t, func(what string, b *bench) { b.reopen(t, what) })
}

// More than a few sectors are not safe when the disk dies.
func TestCrashOfManySectors(t *testing.T) {
	script := "create open +one*200 sync +two*2000 +three +four*201"
	for die := 1; ; die++ {
		if run(t, script, 0, die, func(what string, b *bench) { b.reopen(t, what) }) {
			return
		}
	}
}

// What was lost does not come back, whatever is appended later: other bytes, or the same ones.
func TestLostStaysLost(t *testing.T) {
	everyScript(t, func(what string, b *bench) {
		old := b.past.appended
		if !b.reopen(t, what) {
			return
		}
		has := b.past.appended
		for _, next := range later(old[min(len(has), len(old)):]) {
			c := *b
			c.d = b.d.Copy()
			c.l = opened(t, c.d, c.first, c.sectors)
			for i, p := range next {
				put(t, c.l, p)
				done(t, "P7: Sync", c.l.Sync())
				c.d.Crash(nil)
				c.l = opened(t, c.d, c.first, c.sectors)
				want := append(slices.Clone(has), next[:i+1]...)
				if got := texts(c.l); !slices.Equal(got, want) {
					t.Fatalf("P8: %s: All is %s, want %s", what, short(got), short(want))
				}
			}
		}
	})
}

// later is what may be appended where something was lost: that again, others as long, others of one sector.
func later(lost []string) [][]string {
	var alike, small []string
	for i, p := range lost {
		alike = append(alike, filled("new"+strconv.Itoa(i), len(p)))
		small = append(small, "small"+strconv.Itoa(i))
	}
	return [][]string{lost, alike, append(small, "small", "more")}
}

// What Open gave stays, whatever is done and whatever crash comes next.
func TestWhatOpenGaveStays(t *testing.T) {
	everyScript(t, func(what string, b *bench) {
		if !b.reopen(t, what) {
			return
		}
		for _, script := range []string{"", "+next*202", "+next reset", "open +next"} {
			for die := 1; die < 5; die++ {
				again(t, what, *b, script, die)
			}
		}
	})
}

// again lets the disk die a second time, and crash in a few ways.
func again(t *testing.T, what string, b bench, script string, die int) {
	t.Helper()
	b.d = b.d.Copy()
	b.l = opened(t, b.d, b.first, b.sectors)
	b.from = b.d.Writes()
	b.d.Die(die)
	for _, word := range strings.Fields(script) {
		if !b.step(t, word) {
			break
		}
	}
	for _, raw := range [][]int{{0, 0, 0}, {1, 1, 1}, {2, 2, 2}, {0, 1, 2}, {2, 1, 0}, {1, 0, 0}} {
		c := b
		c.d = b.d.Copy()
		c.d.Crash(raw)
		c.reopen(t, what+", then "+script+" that dies at "+strconv.Itoa(die))
	}
}

// A crash in an Open of a log that has something behind a loss changes nothing of what the log has.
func TestCrashInOpen(t *testing.T) {
	for die := 1; die < 9; die++ {
		for _, raw := range ways(4) {
			d := lost(t)
			d.Die(die)
			wal.Open(d, 0, 10)
			d.Crash(raw)
			l := opened(t, d, 0, 10)
			has(t, l, "one")
			put(t, l, "two", filled("three", 300))
			done(t, "P7: Sync", l.Sync())
			d.Crash(nil)
			has(t, opened(t, d, 0, 10), "one", "two", filled("three", 300))
		}
	}
}

// A crash in the first change behind such an Open, which wipes what stands behind the loss: nothing of it comes back.
func TestCrashInFirstChange(t *testing.T) {
	for die := 1; die < 12; die++ {
		for _, raw := range ways(5) {
			d := lost(t)
			l := opened(t, d, 0, 10)
			d.Die(die)
			appended := l.Append([]byte("next")) == nil
			safe := appended && l.Sync() == nil
			d.Crash(raw)
			want := []string{"one", "next"}
			l = opened(t, d, 0, 10)
			if len(l.All()) == 1 && !safe {
				want = want[:1]
			}
			has(t, l, want...)

			d = lost(t)
			l = opened(t, d, 0, 10)
			d.Die(die)
			empty := l.Reset() == nil
			d.Crash(raw)
			if l = opened(t, d, 0, 10); empty || len(l.All()) == 0 {
				has(t, l)
			} else {
				has(t, l, "one")
			}
		}
	}
}

// A Create that the disk's death ends: where no log was there is none, or an empty one.
func TestCrashInFirstCreate(t *testing.T) {
	for die := 1; die < 6; die++ {
		for _, raw := range ways(3) {
			d := disk.New(8)
			d.Die(die)
			err := wal.Create(d, 0, 8)
			d.Crash(raw)
			l, openErr := wal.Open(d, 0, 8)
			if openErr == nil {
				has(t, l)
			} else if err == nil || openErr != api.ErrForm {
				t.Errorf("P5: Create that dies at %d, crash %v: %v, then Open: %v", die, raw, err, openErr)
			}
			done(t, "P5: Create anew", wal.Create(d, 0, 8))
			has(t, opened(t, d, 0, 8))
		}
	}
}

// Long lives with many deaths, by a rule that is the same each time.
func TestManyDeaths(t *testing.T) {
	for seed := range 400 {
		r := rand.New(rand.NewSource(int64(seed)))
		b := &bench{sectors: 4 + r.Intn(14), first: r.Intn(3)}
		b.d = disk.New(b.first + b.sectors + r.Intn(3))
		b.step(t, "create")
		b.step(t, "open")
		for life := range 25 {
			b.d.Die(1 + r.Intn(20))
			b.live(t, r, life)
			raw := make([]int, 20)
			for i := range raw {
				raw[i] = r.Intn(3)
			}
			b.d.Crash(raw)
			b.reopen(t, "seed "+strconv.Itoa(seed)+", life "+strconv.Itoa(life))
		}
	}
}

// live does this and that till the disk dies.
func (b *bench) live(t *testing.T, r *rand.Rand, life int) {
	t.Helper()
	for n := 0; ; n++ {
		word := "sync"
		switch k := r.Intn(20); {
		case k < 13:
			word = "+" + strconv.Itoa(life) + "/" + strconv.Itoa(n) + "*" + strconv.Itoa(1+r.Intn(450))
			if len(payload(word)) > 200*(b.sectors-3) || b.full(payload(word)) {
				word = "reset"
			}
		case k == 13:
			word = "reset"
		case k == 14 && r.Intn(4) == 0:
			if !b.step(t, "create") {
				return
			}
			word = "open"
		case k == 15:
			word = "open"
		}
		if !b.step(t, word) {
			return
		}
	}
}

// full tells whether P7 promises no room for it.
func (b *bench) full(p string) bool {
	n := sectorsOf(len(p))
	for _, q := range b.past.appended {
		n += sectorsOf(len(q))
	}
	return n > b.sectors-3
}
