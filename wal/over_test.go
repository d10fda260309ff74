package wal_test

import (
	"math"
	"math/rand"
	"strconv"
	"testing"

	"daybook/api"
	"daybook/disk"
	"daybook/wal"
)

// greats are numbers at which something may end: around some powers of two, and the greatest.
func greats() []uint64 {
	list := []uint64{math.MaxUint64, math.MaxUint64 - 1, math.MaxUint64 - 2}
	for _, e := range []int{0, 2, 8, 16, 31, 32, 53, 62, 63} {
		list = append(list, 1<<e-1, 1<<e, 1<<e+1)
	}
	return list
}

// wantEmptyRounds uses the log on a disk for some rounds: it is empty, has what is appended, and is empty again; behind a crash in each Reset it is this or that.
func wantEmptyRounds(t *testing.T, what string, d *disk.Disk, first, sectors int) {
	t.Helper()
	for round := range 5 {
		d.Crash(nil)
		l, err := wal.Open(d, first, sectors)
		if err != nil || len(l.All()) != 0 {
			t.Fatalf("P5: %s, round %d: Open: %v, want an empty log", what, round, err)
		}
		if round > 1 { // what is written over cannot come back
			fillUp(l, "more")
		}
		done(t, "P7: Sync", l.Sync())
		full := texts(l)
		for die := 1; die < 3; die++ {
			for c := range 3 {
				wantAllOrNothing(t, what, d.Copy(), first, sectors, die, c, full)
			}
		}
		d.Crash(nil)
		has(t, opened(t, d, first, sectors), full...)
		done(t, "P7: Reset", l.Reset())
	}
}

// wantAllOrNothing lets the disk die in a Reset.
func wantAllOrNothing(t *testing.T, what string, d *disk.Disk, first, sectors, die, c int, full []string) {
	t.Helper()
	l := opened(t, d, first, sectors)
	d.Die(die)
	if err := l.Reset(); err != api.ErrDisk {
		t.Fatalf("P7: %s: Reset on a disk that dies: %v, want ErrDisk", what, err)
	}
	d.Crash([]int{c})
	if l = opened(t, d, first, sectors); len(l.All()) > 0 {
		has(t, l, full...)
	}
}

// Whatever one sector tells, of this log or of another.
func TestCreateOverOneGreatNumber(t *testing.T) {
	for _, great := range greats() {
		for at := range 6 {
			for _, whose := range [][2]int{{1, 6}, {0, 7}} {
				for _, payload := range []string{"", "abcde"} {
					d := disk.New(7)
					d.Write(1+at, stood(great, whose[0], whose[1], at, payload))
					d.Sync()
					done(t, "P5: Create", wal.Create(d, 1, 6))
					wantEmptyRounds(t, "over the epoch "+strconv.FormatUint(great, 10), d, 1, 6)
				}
			}
		}
	}
}

// Whatever two heads tell, and whatever payloads tell behind them.
func TestCreateOverTwoGreatNumbers(t *testing.T) {
	for _, one := range greats() {
		for _, two := range []uint64{0, 1, one - 1, one, one + 1, one + 2, one + 1<<63, one + 1<<63 - 1, one + 1<<63 + 1} {
			d := disk.New(6)
			d.Write(0, stood(one, 0, 6, 0, ""))
			d.Write(1, stood(two, 0, 6, 1, ""))
			d.Write(2, stood(one, 0, 6, 2, "abcde"))
			d.Write(3, stood(two, 0, 6, 3, "fghij"))
			d.Write(4, stood(max(one, two)+1, 0, 6, 4, "klmno"))
			d.Sync()
			done(t, "P5: Create", wal.Create(d, 0, 6))
			wantEmptyRounds(t, "over the epochs "+strconv.FormatUint(one, 10)+" and "+strconv.FormatUint(two, 10), d, 0, 6)
		}
	}
}

// A log that stood there with a great number is a log like any other: what it has stays till it is made empty.
func TestResetOfAGreatNumber(t *testing.T) {
	for _, great := range greats() {
		if great == 0 {
			continue
		}
		d := disk.New(6)
		d.Write(0, stood(great, 0, 6, 0, ""))
		d.Write(2, stood(great, 0, 6, 2, "abcde"))
		for at, epoch := range []uint64{great + 1, great + 2, 1} {
			d.Write(3+at, stood(epoch, 0, 6, 3+at, "later"))
		}
		d.Sync()
		l := opened(t, d, 0, 6)
		has(t, l, "abcde")
		done(t, "P7: Reset", l.Reset())
		wantEmptyRounds(t, "behind a Reset from the epoch "+strconv.FormatUint(great, 10), d, 0, 6)
	}
}

// Any sectors at all that logs may have left, by a rule that is the same each time.
func TestCreateOverManySectors(t *testing.T) {
	list := greats()
	for seed := range 1000 {
		r := rand.New(rand.NewSource(int64(seed)))
		near := list[r.Intn(len(list))]
		d := disk.New(8)
		for at := range 8 {
			payload := []string{"", "", "abcde", filled("x", 200)}[r.Intn(4)]
			d.Write(at, stood(near+uint64(r.Intn(9))-4, r.Intn(9)/8, 8, at, payload))
		}
		d.Sync()
		done(t, "P5: Create", wal.Create(d, 0, 8))
		wantEmptyRounds(t, "seed "+strconv.Itoa(seed), d, 0, 8)
	}
}
