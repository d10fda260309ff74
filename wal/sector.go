package wal

import (
	"slices"

	"daybook/api"
	"daybook/area"
	"daybook/disk"
	"daybook/numbers"
	"daybook/sums"
)

const (
	heads    = 2   // sectors at the beginning, of which the newer one tells the epoch
	partSize = 200 // bytes of a payload in one sector, as P7 counts them
	mark     = "log"
	bytesAt  = len(mark) + 8 + 4 + 4 + 4 + 2 + 1
	checkAt  = bytesAt + partSize
	end      = checkAt + 4
)

// sector is what stands in a sector of a log: a head (its length is 0), or a part of a payload.
// An epoch is what lies between two times that the log was made empty: parts of another epoch than the head's are gone without being touched.
// Each tells whose it is and where it stands, so that what another log has left is not taken for this one's.
type sector struct {
	epoch              uint64 // 0: none
	first, sectors, at int
	length             int // of the whole payload
	part               int
	bytes              string
}

// parts is how many sectors a payload of so many bytes takes.
func parts(length int) int { return (length + partSize - 1) / partSize }

// partLength is how many bytes a part has.
func partLength(length, part int) int { return min(partSize, length-part*partSize) }

func (s sector) text() string {
	b := append(make([]byte, 0, disk.Size), mark...)
	b = numbers.Append(b, s.epoch, 8)
	b = numbers.Append(b, uint64(s.first), 4)
	b = numbers.Append(b, uint64(s.sectors), 4)
	b = numbers.Append(b, uint64(s.at), 4)
	b = numbers.Append(b, uint64(s.length), 2)
	b = numbers.Append(b, uint64(s.part), 1)
	b = append(b, s.bytes...)
	b = append(b, make([]byte, checkAt-len(b))...)
	return string(numbers.Append(b, uint64(sums.Check(b)), 4))
}

// read takes a sector's text apart; false: no log has written it.
func read(text string) (sector, bool) {
	if len(text) < end || text[:len(mark)] != mark {
		return sector{}, false
	}
	if numbers.Read(text[checkAt:end]) != uint64(sums.Check([]byte(text[:checkAt]))) {
		return sector{}, false
	}
	rest := text[len(mark):]
	s := sector{
		epoch:   numbers.Read(rest[:8]),
		first:   int(numbers.Read(rest[8:12])),
		sectors: int(numbers.Read(rest[12:16])),
		at:      int(numbers.Read(rest[16:20])),
		length:  int(numbers.Read(rest[20:22])),
		part:    int(numbers.Read(rest[22:23])),
	}
	n := partLength(s.length, s.part)
	if s.length > api.MaxPayload || n < 0 {
		return sector{}, false
	}
	s.bytes = text[bytesAt : bytesAt+n]
	return s, true
}

// survey reads all sectors; where none of a log is, or a broken one, stands the zero sector, whose epoch is none.
func survey(place area.Area) []sector {
	found := make([]sector, place.Sectors)
	for i := range found {
		if text, ok := place.Read(i); ok {
			found[i], _ = read(text)
		}
	}
	return found
}

// after is the epoch behind another. They go round, past 0, which is none: whatever number stood on the disk, there is one behind it.
func after(epoch uint64) uint64 { return max(epoch+1, 1) }

// newer tells whether an epoch is behind another, by less than half a round.
func newer(epoch, other uint64) bool { return int64(epoch-other) > 0 }

// untold is the next epoch behind another that no sector tells of: there is nothing in it yet.
func untold(found []sector, epoch uint64) uint64 {
	next := after(epoch)
	for slices.ContainsFunc(found, func(s sector) bool { return s.epoch == next }) {
		next = after(next)
	}
	return next
}

// newerHead is which of the first sectors is the newer head; false: neither is one.
func newerHead(found []sector) (int, bool) {
	at, ok := 0, false
	for i, s := range found[:heads] {
		if s.epoch > 0 && s.length == 0 && (!ok || newer(s.epoch, found[at].epoch)) {
			at, ok = i, true
		}
	}
	return at, ok
}
