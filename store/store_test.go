package store

import (
	"errors"
	"slices"
	"strings"
	"testing"

	"daybook/api"
	"daybook/disk"
	"daybook/payload"
	"daybook/tree"
	"daybook/wal"
)

// forged is a disk with a tree that has these pairs and a log that has these entries.
func forged(t *testing.T, sectors int, pairs []api.Pair, entries ...string) *disk.Disk {
	t.Helper()
	d := disk.New(sectors)
	if err := Create(d); err != nil {
		t.Fatal(err)
	}
	x, err := tree.Open(d, treeAt, treeSectors(d))
	if err != nil {
		t.Fatal(err)
	}
	for _, p := range pairs {
		if err := x.Put(p.Key, p.Value); err != nil {
			t.Fatal(err)
		}
	}
	if err := x.Save(); err != nil {
		t.Fatal(err)
	}
	l, err := wal.Open(d, 0, logSectors)
	if err != nil {
		t.Fatal(err)
	}
	for _, e := range entries {
		if err := l.Append([]byte(e)); err != nil {
			t.Fatal(err)
		}
	}
	if err := l.Sync(); err != nil {
		t.Fatal(err)
	}
	return d
}

func inTree(entries ...entry) []api.Pair {
	var all []api.Pair
	for _, e := range entries {
		all = append(all, e.pairs()...)
	}
	return all
}

func inLog(entries ...entry) []string {
	var all []string
	for _, e := range entries {
		all = append(all, string(e.bytes()))
	}
	return all
}

// numbered are entries with these numbers, whose texts tell them.
func numbered(from, to int) []entry {
	var all []entry
	for n := from; n <= to; n++ {
		all = append(all, entry{n, strings.Repeat(string(rune('a'+n)), 40*n)})
	}
	return all
}

func texts(entries []entry) []string {
	var all []string
	for _, e := range entries {
		all = append(all, e.text)
	}
	return all
}

func TestLayout(t *testing.T) {
	if need := (numberSize + payload.Greatest + 199) / 200; logSectors-3 < need || numberSize+payload.Greatest > api.MaxPayload {
		t.Errorf("P17: a log of %d sectors has no room for an entry of %d", logSectors, need)
	}
	if treeSectors(disk.New(api.MinDisk)) < api.MinTree {
		t.Error("P13: the smallest disk has no room for a tree")
	}
	if tallyAt < logSectors || treeAt < tallyAt+tallies {
		t.Error("P13: two things have one sector")
	}
	if partsOf(payload.Greatest) > 255 || keySize > api.MaxKey {
		t.Error("P17: a key has no room for the number of a part")
	}
}

// What stores leave is opened: at rest, and where a crash came between a saved tree and its emptied log.
func TestWhatStoresLeave(t *testing.T) {
	for _, c := range []struct{ stored, from, to int }{{0, 1, 0}, {0, 1, 1}, {0, 1, 5}, {4, 1, 0}, {4, 5, 5}, {4, 5, 7}, {4, 1, 4}, {4, 3, 4}, {4, 4, 4}, {4, 1, 6}, {4, 4, 6}} {
		d := forged(t, 640, inTree(numbered(1, c.stored)...), inLog(numbered(c.from, c.to)...)...)
		want := numbered(1, max(c.stored, c.to))
		s, all, err := Open(d)
		if err != nil || !slices.Equal(all, texts(want)) || s.Count() != len(want) {
			t.Fatalf("P20: %d in the tree, %d to %d in the log: %d payloads, %v", c.stored, c.from, c.to, len(all), err)
		}
		for range 2 {
			for _, e := range want {
				if text, err := s.Get(e.number); err != nil || text != e.text {
					t.Errorf("P18: payload %d is %q, %v", e.number, text, err)
				}
			}
			if err := s.Checkpoint(); err != nil {
				t.Errorf("P19: Checkpoint: %v", err)
			}
		}
		if err := s.Add("one more"); err != nil {
			t.Errorf("P17: Add: %v", err)
		}
		if _, all, err = Open(d); err != nil || !slices.Equal(all, append(texts(want), "one more")) {
			t.Errorf("P20: behind it: %d payloads, %v", len(all), err)
		}
	}
}

// told is a disk with these tallies ("": a sector that is broken).
func told(t *testing.T, d *disk.Disk, texts ...string) *disk.Disk {
	t.Helper()
	c := d.Copy()
	for slot, text := range texts {
		c.Write(tallyAt+slot, text)
		if text == "" {
			c.Crash([]int{2})
		}
		c.Sync()
	}
	return c
}

// What a tally tells of must be there; more may be.
func TestTallies(t *testing.T) {
	d := forged(t, 640, inTree(numbered(1, 4)...), inLog(numbered(5, 6)...)...)
	for _, one := range []int{0, 1, 4, 5, 6, 7, 8, 1<<32 - 1} {
		for _, two := range []int{0, 3, 5, 6, 7, 1<<32 - 1} {
			s, all, err := Open(told(t, d, tally{0, one}.text(), tally{1, two}.text()))
			if max(one, two) > 6 {
				if !errors.Is(err, api.ErrForm) || s != nil || all != nil {
					t.Errorf("P13: tallies %d and %d of 6 payloads: %v, want ErrForm", one, two, err)
				}
			} else if err != nil || len(all) != 6 {
				t.Errorf("P20: tallies %d and %d of 6 payloads: %d payloads, %v", one, two, len(all), err)
			}
		}
	}
}

// A tally may be broken, for a crash may have come while it was written; the next one takes its place, so that one always stands.
func TestBrokenTally(t *testing.T) {
	d := forged(t, 640, inTree(numbered(1, 4)...))
	for _, texts := range [][]string{{"", tally{1, 3}.text()}, {tally{0, 4}.text(), ""}, {"", tally{1, 4}.text()}, {tally{0, 0}.text(), ""}, {"", tally{1, 0}.text()}} {
		c := told(t, d, texts...)
		e := c.Copy()
		e.Die(2) // in a Create, when the first tally is written, and not yet safe
		if err := Create(e); !errors.Is(err, api.ErrDisk) {
			t.Fatalf("P13: Create on a disk that dies: %v", err)
		}
		e.Crash([]int{2})
		if _, all, err := Open(e); err != nil || len(all) != 4 {
			t.Errorf("P20: behind a Create that died: %d payloads, %v", len(all), err)
		}
		s, all, err := Open(c)
		if err != nil || len(all) != 4 {
			t.Fatalf("P20: a broken tally: %d payloads, %v", len(all), err)
		}
		c.Die(4) // it dies when the tally is written, and not yet safe
		if err := s.Add("x"); !errors.Is(err, api.ErrDisk) {
			t.Fatalf("P17: Add on a disk that dies: %v", err)
		}
		c.Crash([]int{2})
		if _, all, err := Open(c); err != nil || len(all) != 5 {
			t.Errorf("P20: behind it: %d payloads, %v", len(all), err)
		}
	}
}

// Tallies that no store has written are ErrForm; a Create makes good ones of them.
func TestWrongTallies(t *testing.T) {
	d := forged(t, 640, inTree(numbered(1, 4)...))
	right := [2]string{tally{0, 4}.text(), tally{1, 3}.text()}
	wrong := [][]string{{right[1], right[1]}, {right[0], right[0]}, {right[1], right[0]}, {"", ""}, {strings.Repeat("\xff", 256), right[1]}, {right[0], strings.Repeat("\x00", 256)}, {mark, mark}}
	for at := range 256 {
		b := []byte(right[0])
		b[at] ^= 1
		wrong = append(wrong, []string{string(b), right[1]})
	}
	for _, texts := range wrong {
		c := told(t, d, texts...)
		if s, all, err := Open(c); !errors.Is(err, api.ErrForm) || s != nil || all != nil {
			t.Errorf("P13: tallies %.20q: %v, want ErrForm", texts, err)
		}
		if err := Create(c); err != nil {
			t.Errorf("P13: Create over tallies %.20q: %v", texts, err)
		}
		if _, all, err := Open(c); err != nil || len(all) != 0 {
			t.Errorf("P13: Open behind Create over tallies %.20q: %d payloads, %v", texts, len(all), err)
		}
	}
}

// A log that goes on behind nothing is not emptied, if a tally tells of what is no more: that was no Create.
func TestLogIsNotEmptied(t *testing.T) {
	d := told(t, forged(t, 640, nil, inLog(numbered(3, 5)...)...), tally{0, 4}.text(), tally{1, 5}.text())
	if _, _, err := Open(d); !errors.Is(err, api.ErrForm) {
		t.Errorf("P13: Open: %v, want ErrForm", err)
	}
	l, err := wal.Open(d, 0, logSectors)
	if err != nil || len(l.All()) != 3 {
		t.Errorf("P1: the log has %d entries, %v, want 3", len(l.All()), err)
	}
}

// An empty tree and a log that goes on behind what is no more: a Create came no further, and nothing is there. What is laid there later stays.
func TestCreateCameNoFurther(t *testing.T) {
	d := forged(t, 640, nil, inLog(numbered(3, 5)...)...)
	for die := 0; ; die++ {
		c := d.Copy()
		c.Die(die)
		s, all, err := Open(c)
		if err == nil {
			if len(all) > 0 || s.Count() > 0 {
				t.Errorf("P20: %d payloads", len(all))
			}
			break
		}
		if !errors.Is(err, api.ErrDisk) {
			t.Errorf("P13: Open of a disk that dies: %v", err)
		}
		for _, raw := range [][]int{{0}, {1}, {2}} {
			e := c.Copy()
			e.Crash(raw)
			s, all, err := Open(e)
			if err != nil || len(all) > 0 {
				t.Fatalf("P20: behind it: %d payloads, %v", len(all), err)
			}
			if err := s.Add("first"); err != nil {
				t.Fatal(err)
			}
			if _, all, err := Open(e); err != nil || !slices.Equal(all, []string{"first"}) {
				t.Fatalf("P20: behind it: %q, %v", all, err)
			}
		}
	}
}

// What no store has written is ErrForm, though all sums are right.
func TestForged(t *testing.T) {
	good := numbered(1, 4)
	with := func(p api.Pair) []api.Pair { return append(inTree(good...), p) }
	for what, d := range map[string]*disk.Disk{
		"numbers from 2 on":                forged(t, 640, inTree(numbered(2, 4)...)),
		"a number that is left out":        forged(t, 640, inTree(append(numbered(1, 2), numbered(4, 4)...)...)),
		"the number 0":                     forged(t, 640, with(api.Pair{Key: keyOf(0, 0), Value: []byte("x")})),
		"a part that is left out":          forged(t, 640, inTree(good...)[1:]),
		"another part left out":            forged(t, 640, slices.Delete(inTree(good...), 2, 3)),
		"a part behind one that is short":  forged(t, 640, with(api.Pair{Key: keyOf(1, 1), Value: []byte("x")})),
		"a part without bytes":             forged(t, 640, with(api.Pair{Key: keyOf(5, 0)})),
		"a key that is too short":          forged(t, 640, with(api.Pair{Key: prefixOf(5), Value: []byte("x")})),
		"a key that is too long":           forged(t, 640, with(api.Pair{Key: append(keyOf(5, 0), 0), Value: []byte("x")})),
		"a key of another kind":            forged(t, 640, with(api.Pair{Key: []byte("key"), Value: []byte("x")})),
		"an entry of no number":            forged(t, 640, inTree(good...), "abc"),
		"the entry 0":                      forged(t, 640, inTree(good...), inLog(entry{0, "x"})...),
		"the entry 0 of an empty tree":     forged(t, 640, nil, inLog(entry{0, "x"})...),
		"a log that begins too late":       forged(t, 640, inTree(good...), inLog(numbered(6, 7)...)...),
		"a log that ends too early":        forged(t, 640, inTree(good...), inLog(numbered(1, 3)...)...),
		"an entry that is left out":        forged(t, 640, inTree(good...), inLog(entry{5, "x"}, entry{7, "x"})...),
		"an entry that is there twice":     forged(t, 640, inTree(good...), inLog(entry{5, "x"}, entry{5, "x"})...),
		"entries in another order":         forged(t, 640, inTree(good...), inLog(entry{6, "x"}, entry{5, "x"})...),
		"an entry that goes back":          forged(t, 640, inTree(good...), inLog(entry{5, "x"}, good[3])...),
		"another payload than in the tree": forged(t, 640, inTree(good...), inLog(good[2], entry{4, "other"})...),
		"a number as great as it can be":   forged(t, 640, inTree(good...), inLog(entry{1<<32 - 1, "x"})...),
		"more than there is room for":      forged(t, 64, inTree(numbered(1, 2)...), inLog(numbered(3, 3)...)...),
	} {
		s, all, err := Open(d)
		if !errors.Is(err, api.ErrForm) || s != nil || all != nil {
			t.Errorf("P13: Open of %s: %d payloads, %v, want ErrForm", what, len(all), err)
		}
	}
}

// There is room for just what the tree has room for by P12, twice.
func TestRoomIsCounted(t *testing.T) {
	d := disk.New(api.MinDisk)
	if err := Create(d); err != nil {
		t.Fatal(err)
	}
	s, _, err := Open(d)
	if err != nil {
		t.Fatal(err)
	}
	room := 16 * (api.MinDisk - treeAt - 24) / 2
	if !s.HasRoom(100) || s.HasRoom(room) {
		t.Errorf("P17: of %d bytes of room 100 must be free", room)
	}
	taken := 100 + keySize + 8
	if err := s.Add(strings.Repeat("x", 100)); err != nil {
		t.Fatal(err)
	}
	rest := room - taken - keySize - 8
	if !s.HasRoom(rest) || s.HasRoom(rest+1) {
		t.Errorf("P17: there must be room for just %d bytes", rest)
	}
	if s, _, err = Open(d); err != nil || !s.HasRoom(rest) || s.HasRoom(rest+1) {
		t.Errorf("P17: behind Open there must be room for just %d bytes", rest)
	}
	if got := takes(101) - takes(100); got != 1+keySize+8 {
		t.Errorf("P12: one byte more, and a part more, takes %d", got)
	}
}

// What is not as it was laid down is not told.
func TestGetOfWhatIsForged(t *testing.T) {
	d := forged(t, 640, inTree(numbered(1, 4)...))
	s, _, err := Open(d)
	if err != nil {
		t.Fatal(err)
	}
	x, err := tree.Open(d, treeAt, treeSectors(d))
	if err != nil {
		t.Fatal(err)
	}
	for _, err := range []error{x.Delete(keyOf(1, 0)), x.Put(keyOf(2, 1), []byte("x")), x.Delete(keyOf(3, 0)), x.Put(keyOf(4, 0), []byte("x")), x.Save()} {
		if err != nil {
			t.Fatal(err)
		}
	}
	for n := 1; n <= 4; n++ {
		if text, err := s.Get(n); !errors.Is(err, api.ErrForm) || text != "" {
			t.Errorf("P18: Get(%d) = %q, %v, want ErrForm", n, text, err)
		}
	}
}

func TestGetOfNone(t *testing.T) {
	s, _, err := Open(forged(t, 640, inTree(numbered(1, 2)...), inLog(numbered(3, 3)...)...))
	if err != nil {
		t.Fatal(err)
	}
	for _, n := range []int{0, -1, 4, 1 << 32, 1<<32 + 1} {
		if text, err := s.Get(n); !errors.Is(err, api.ErrArg) || text != "" {
			t.Errorf("P18: Get(%d) = %q, %v, want ErrArg", n, text, err)
		}
	}
}
