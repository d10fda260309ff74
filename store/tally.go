package store

import (
	"daybook/api"
	"daybook/disk"
	"daybook/numbers"
	"daybook/sums"
)

const (
	tallies = 2
	mark    = "tally"
)

// tally is one of two sectors that tell how many payloads there are at least. When a payload is safe, the next tally is written over the older one.
// No crash takes away what a tally tells of. So where the log and the tree have less, somebody else has written there: that is not taken for what a crash leaves of them.
type tally struct {
	slot  int // which of the two it is
	count int
}

// text is what its sector has, all of it.
func (t tally) text() string {
	b := append([]byte(mark), byte(t.slot))
	b = numbers.Append(b, uint64(t.count), numberSize)
	b = numbers.Append(b, uint64(sums.Check(b)), 4)
	return string(append(b, make([]byte, disk.Size-len(b))...))
}

// next is the tally that comes behind this one, in the other sector: this one still stands if a crash breaks that.
func (t tally) next(count int) tally { return tally{1 - t.slot, count} }

// write makes a tally safe.
func (t tally) write(d *disk.Disk) error {
	if !d.Write(tallyAt+t.slot, t.text()) || !d.Sync() {
		return api.ErrDisk
	}
	return nil
}

// tallyOf is the tally of a disk that tells of most; ErrForm, if they are not as stores leave them.
func tallyOf(d *disk.Disk) (tally, error) {
	var most tally
	right := 0
	for slot := range tallies {
		text, ok := d.Read(tallyAt + slot)
		if d.Dead() {
			return tally{}, api.ErrDisk
		}
		if !ok {
			continue // a crash came while it was written
		}
		r := &numbers.Reader{Rest: text}
		r.Bytes(len(mark) + 1)
		t := tally{slot, r.Number(numberSize)}
		if t.text() != text {
			return tally{}, api.ErrForm
		}
		if right++; right == 1 || t.count > most.count {
			most = t
		}
	}
	if right == 0 {
		return tally{}, api.ErrForm
	}
	return most, nil
}
