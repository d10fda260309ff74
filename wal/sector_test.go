package wal

import (
	"math"
	"strings"
	"testing"

	"daybook/api"
	"daybook/disk"
)

func TestSectorGivesBack(t *testing.T) {
	for _, s := range []sector{
		{1, 0, 4, 0, 0, 0, ""},
		{1<<64 - 1, 4092, 4096, 1, 0, 0, ""},
		{2, 7, 100, 99, 1, 0, "x"},
		{3, 7, 100, 2, 200, 0, strings.Repeat("y", 200)},
		{4, 7, 100, 3, 201, 1, "\x00"},
		{5, 7, 100, 12, 2000, 9, strings.Repeat("\xff", 200)},
	} {
		text := s.text()
		if len(text) > disk.Size {
			t.Fatalf("a sector of %d bytes", len(text))
		}
		if got, ok := read(text); !ok || got != s {
			t.Errorf("%v came back as %v, %v", s, got, ok)
		}
	}
}

func TestReadRefuses(t *testing.T) {
	long := sector{1, 0, 40, 2, api.MaxPayload + 1, 0, strings.Repeat("x", 200)}
	behind := sector{1, 0, 40, 2, 200, 2, ""}
	for _, text := range []string{"", mark, strings.Repeat("\x00", 256), long.text(), behind.text()} {
		if s, ok := read(text); ok || s != (sector{}) {
			t.Errorf("%q was taken for %v", text, s)
		}
	}
}

func TestEpochsGoRound(t *testing.T) {
	const most = math.MaxUint64
	for _, c := range [][2]uint64{{0, 1}, {1, 2}, {math.MaxInt64, 1 << 63}, {most - 1, most}, {most, 1}} {
		if got := after(c[0]); got != c[1] {
			t.Errorf("behind the epoch %d comes %d, want %d", c[0], got, c[1])
		}
		if !newer(c[1], c[0]) || newer(c[0], c[1]) || newer(c[0], c[0]) {
			t.Errorf("of the epochs %d and %d the other one is newer", c[0], c[1])
		}
	}
	for _, c := range []struct{ behind, want uint64 }{{0, 2}, {2, 3}, {4, 6}, {most - 2, most - 1}, {most - 1, 2}, {most, 2}} {
		if got := untold([]sector{{epoch: 5}, {}, {epoch: most}, {epoch: 1}}, c.behind); got != c.want {
			t.Errorf("behind the epoch %d the first that nobody tells of is %d, want %d", c.behind, got, c.want)
		}
	}
}

// forged is a log of eight sectors that has one payload, with other sectors written over it.
func forged(t *testing.T, others map[int]sector) []string {
	t.Helper()
	d := disk.New(8)
	Create(d, 0, 8)
	l, err := Open(d, 0, 8)
	if err != nil || l.Append([]byte("one")) != nil {
		t.Fatal("there is no log")
	}
	for i, s := range others {
		d.Write(i, s.text())
	}
	l, err = Open(d, 0, 8)
	if err != nil {
		return []string{err.Error()}
	}
	return l.all
}

// Whatever is on the disk: what this log has not written in its place is none of it.
func TestForgedSectors(t *testing.T) {
	full := strings.Repeat("x", 200)
	for name, others := range map[string]map[int]sector{
		"one that stands elsewhere":       {3: {1, 0, 8, 2, 3, 0, "one"}},
		"one of a log that began later":   {3: {1, 1, 8, 3, 3, 0, "two"}},
		"one of a greater log":            {3: {1, 0, 9, 3, 3, 0, "two"}},
		"one of another epoch":            {3: {2, 0, 8, 3, 3, 0, "two"}},
		"a head among the payloads":       {3: {1, 0, 8, 3, 0, 0, ""}},
		"a second part without the first": {3: {1, 0, 8, 3, 201, 1, "x"}},
		"a first part without the second": {3: {1, 0, 8, 3, 201, 0, full}, 4: {1, 0, 8, 4, 3, 0, "two"}},
		"parts of two payloads":           {3: {1, 0, 8, 3, 201, 0, full}, 4: {1, 0, 8, 4, 202, 1, "xx"}},
		"one first part twice":            {3: {1, 0, 8, 3, 400, 0, full}, 4: {1, 0, 8, 4, 400, 0, full}},
		"one that goes beyond the end":    {3: {1, 0, 8, 3, 1200, 0, full}, 4: {1, 0, 8, 4, 1200, 1, full}, 5: {1, 0, 8, 5, 1200, 2, full}, 6: {1, 0, 8, 6, 1200, 3, full}, 7: {1, 0, 8, 7, 1200, 4, full}},
		"a payload where a head is":       {1: {9, 0, 8, 1, 3, 0, "two"}},
	} {
		if all := forged(t, others); len(all) != 1 || all[0] != "one" {
			t.Errorf("P8: %s: the log has %q, want one", name, all)
		}
	}
}
