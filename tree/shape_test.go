package tree

import (
	"bytes"
	"math/rand"
	"strconv"
	"strings"
	"testing"

	"daybook/api"
	"daybook/disk"
)

// made is an empty tree on a disk of its own.
func made(t *testing.T, sectors int) (*disk.Disk, *Tree) {
	t.Helper()
	d := disk.New(sectors)
	if err := Create(d, 0, sectors); err != nil {
		t.Fatal(err)
	}
	x, err := Open(d, 0, sectors)
	if err != nil {
		t.Fatal(err)
	}
	return d, x
}

// wantShape: each page below the root has the bytes that it must have, an inner one three children or more; used tells how often each sector was met.
func wantShape(t *testing.T, x *Tree, w way, used []int) {
	t.Helper()
	used[w.at]++
	p, err := x.read(w)
	if err != nil {
		t.Fatalf("a page of level %d: %v", w.level, err)
	}
	if isRoot := w.level == anyLevel; !isRoot && bytesOf(p) < p.least() {
		t.Fatalf("a page of level %d has %d bytes", p.level(), bytesOf(p))
	}
	if n, ok := p.(inner); ok {
		if w.level != anyLevel && n.count() < 3 {
			t.Fatalf("a page of level %d has %d children", n.above, n.count())
		}
		for i := range n.children {
			wantShape(t, x, n.below(i, w), used)
		}
	}
}

// wantRoom: what is known of the room is what the pages say; old is the root that was saved last.
func wantRoom(t *testing.T, x *Tree, old link) {
	t.Helper()
	now, was := make([]int, x.place.Sectors), make([]int, x.place.Sectors)
	wantShape(t, x, x.top(), now)
	wantShape(t, x, way{link: old, level: anyLevel}, was)
	if x.room == nil {
		return
	}
	for i, r := range x.room {
		if now[i] > 1 || was[i] > 1 || r&ofNow > 0 != (now[i] == 1) || r&ofSaved > 0 != (was[i] == 1) || r&fixed > 0 != (i <= emptyAt) {
			t.Fatalf("sector %d is marked %d; it is met %d times in the tree, %d times in the one that was saved", i, r, now[i], was[i])
		}
	}
}

// The shape on which P12 rests holds behind each change, for pairs of all sizes, and the tree that was saved last still stands.
func TestShape(t *testing.T) {
	for name, length := range map[string]func(r *rand.Rand) (int, int){
		"small":     func(r *rand.Rand) (int, int) { return 2 + r.Intn(2), r.Intn(2) },
		"any":       func(r *rand.Rand) (int, int) { return 2 + r.Intn(39), r.Intn(101) },
		"long keys": func(r *rand.Rand) (int, int) { return 38 + r.Intn(3), r.Intn(40) },
		"mixed":     func(r *rand.Rand) (int, int) { return 2 + 38*(r.Intn(6)/5), 100 * (r.Intn(6) / 5) },
	} {
		r := rand.New(rand.NewSource(2))
		_, x := made(t, 700)
		saved := x.root
		var keys []string
		for step := range 3000 {
			k, v := length(r)
			key := strings.Repeat(strconv.Itoa(r.Intn(90000)+10000), 8)[:k]
			grow := step/1000%2 == 0
			if r.Intn(10) < 7 == grow || len(keys) == 0 {
				if err := x.Put([]byte(key), make([]byte, v)); err != nil && err != api.ErrFull {
					t.Fatalf("%s: Put: %v", name, err)
				}
				keys = append(keys, key)
			} else {
				x.Delete([]byte(keys[r.Intn(len(keys))]))
			}
			if step%10 == 0 {
				wantRoom(t, x, saved)
			}
			if r.Intn(50) == 0 {
				if err := x.Save(); err != nil {
					t.Fatal(err)
				}
				saved = x.root
			}
		}
		wantRoom(t, x, saved)
	}
}

// A change that is refused leaves the room as it was; and what a Save gives free is used again.
func TestRoomIsGivenBack(t *testing.T) {
	d, x := made(t, 40)
	for n := 0; x.Put([]byte(strconv.Itoa(n)), make([]byte, 90)) == nil; n++ {
	}
	before := bytes.Clone(x.room)
	if err := x.Put([]byte("one more"), make([]byte, 90)); err != api.ErrFull || !bytes.Equal(x.room, before) {
		t.Errorf("ErrFull is %v, and the room is not what it was", err)
	}
	for n := 0; x.Delete([]byte(strconv.Itoa(n))) == nil; n++ {
	}
	for range 300 {
		if x.Put([]byte("x"), []byte("y")) != nil || x.Save() != nil || x.Delete([]byte("x")) != nil || x.Save() != nil {
			t.Fatal("the room was not given back")
		}
	}
	y, err := Open(d, 0, 40)
	if err != nil || y.Put([]byte("x"), []byte("y")) != nil {
		t.Fatal("there is no tree")
	}
	wantRoom(t, y, y.saved.root)
}
