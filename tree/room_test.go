package tree_test

import (
	"maps"
	"math/rand"
	"slices"
	"strconv"
	"strings"
	"testing"

	"daybook/api"
	"daybook/disk"
	"daybook/tree"
)

// keeper puts, deletes and saves, and knows what P12 promises.
type keeper struct {
	d       *disk.Disk
	x       *tree.Tree
	sectors int
	now     pairs
	saved   int // what the pairs that were saved last take
	takes   int // what the pairs of the tree take
}

func newKeeper(t *testing.T, sectors int) *keeper {
	t.Helper()
	d, x := fresh(t, sectors)
	return &keeper{d: d, x: x, sectors: sectors, now: pairs{}}
}

// of is what the key's pair takes.
func (k *keeper) of(key string) int {
	if v, there := k.now[key]; there {
		return len(key) + len(v) + 8
	}
	return 0
}

// promised tells whether there must be room for pairs that take so much.
func (k *keeper) promised(takes int) bool { return takes+k.saved <= 16*(k.sectors-24) }

// put puts a pair, if there must be room for it; it tells whether there must.
func (k *keeper) put(t *testing.T, key, value string) bool {
	t.Helper()
	takes := k.takes - k.of(key) + len(key) + len(value) + 8
	if !k.promised(takes) {
		return false
	}
	if err := k.x.Put([]byte(key), []byte(value)); err != nil {
		t.Fatalf("P12: a tree of %d sectors: Put of %d and %d bytes, all pairs take %d, saved ones %d: %v", k.sectors, len(key), len(value), takes, k.saved, err)
	}
	k.now[key], k.takes = value, takes
	return true
}

// delete deletes a key, if there must be room for that.
func (k *keeper) delete(t *testing.T, key string) bool {
	t.Helper()
	takes := k.takes - k.of(key)
	if !k.promised(takes) {
		return false
	}
	if err := k.x.Delete([]byte(key)); err != nil {
		t.Fatalf("P12: a tree of %d sectors: Delete, then all pairs take %d, saved ones %d: %v", k.sectors, takes, k.saved, err)
	}
	delete(k.now, key)
	k.takes = takes
	return true
}

func (k *keeper) save(t *testing.T) {
	t.Helper()
	done(t, "P11: Save", k.x.Save())
	k.saved = k.takes
}

// orders are those in which keys may come.
func orders() map[string]func(r *rand.Rand, keys []string) {
	return map[string]func(r *rand.Rand, keys []string){
		"rising":  func(r *rand.Rand, keys []string) { slices.Sort(keys) },
		"falling": func(r *rand.Rand, keys []string) { slices.Sort(keys); slices.Reverse(keys) },
		"any": func(r *rand.Rand, keys []string) {
			r.Shuffle(len(keys), func(i, j int) { keys[i], keys[j] = keys[j], keys[i] })
		},
	}
}

// keysOf are different keys of these lengths; there are less than many of them only if there are no more.
func keysOf(r *rand.Rand, length func() int, many int) []string {
	all := map[string]bool{}
	for range 3 * many {
		b := make([]byte, length())
		r.Read(b)
		all[string(b)] = true
		if len(all) == many {
			break
		}
	}
	return slices.Sorted(maps.Keys(all))
}

func roomSizes() []int { return []int{16, 23, 24, 25, 26, 32, 33, 64, 100, 200} }

// Pairs of all shapes, in all orders, up to the edge of what is promised: with nothing saved; then saved, and as much again; then deleted.
func TestPromisedRoom(t *testing.T) {
	for shape, size := range shapes() {
		for order, arrange := range orders() {
			for _, sectors := range roomSizes() {
				r := rand.New(rand.NewSource(int64(sectors)))
				keys := keysOf(r, func() int { n, _ := size(r); return n }, 2*sectors)
				arrange(r, keys)
				k := newKeeper(t, sectors)
				for _, key := range keys { // to the edge
					_, n := size(r)
					k.put(t, key, text("v", n))
				}
				if k.promised(k.takes + 148) {
					t.Errorf("the test did not come to the edge: %s, %d sectors, %d", shape, sectors, k.takes)
				}
				has(t, "P12: "+shape+", "+order, k.x, k.now)
				for i, key := range keys { // away from it again, so that there is room for a Save
					if i%2 == 0 && k.now[key] != "" || k.takes > 8*(sectors-24) {
						if k.of(key) > 0 {
							k.delete(t, key)
						}
					}
				}
				k.save(t)
				k.replaceAll(t, r, keys, size)
				has(t, "P12: "+shape+", "+order+", replaced", k.x, k.now)
			}
		}
	}
}

// replaceAll gives all keys other values, as far as there must be room, and deletes what it comes by, beside a tree that is saved.
func (k *keeper) replaceAll(t *testing.T, r *rand.Rand, keys []string, size sizes) {
	t.Helper()
	for range 3 {
		for _, key := range keys {
			_, n := size(r)
			if !k.put(t, key, text("other", n)) && k.of(key) > 0 {
				k.delete(t, key)
			}
		}
	}
	k.save(t)
}

// Many changes near the edge, with and without Save between.
func TestRoomStays(t *testing.T) {
	for shape, size := range shapes() {
		for _, sectors := range []int{25, 27, 32, 64, 150} {
			for _, rarely := range []int{3, 40, 100000} {
				r := rand.New(rand.NewSource(int64(sectors + rarely)))
				keys := keysOf(r, func() int { n, _ := size(r); return n }, sectors)
				k := newKeeper(t, sectors)
				for range 1500 {
					key := keys[r.Intn(len(keys))]
					_, n := size(r)
					if r.Intn(3) == 0 || !k.put(t, key, text("v", n)) {
						if k.of(key) > 0 {
							k.delete(t, key)
						}
					}
					if r.Intn(rarely) == 0 {
						k.save(t)
					}
				}
				has(t, "P12: "+shape, k.x, k.now)
			}
		}
	}
}

// Pairs that leave pages as empty as can be: a great one between small ones, and then most of the small ones go.
func TestRoomOfEmptyPages(t *testing.T) {
	for _, sectors := range []int{32, 64, 200} {
		k := newKeeper(t, sectors)
		for round := range 4 {
			for i := range 40 * sectors {
				key := strconv.Itoa(10000 + i)
				if i%7 == round {
					key = text(key, 40)
					k.put(t, key, text("v", 100))
				} else {
					k.put(t, key, "")
				}
			}
			for i, key := range k.now.keys() {
				if i%9 > round*2 && len(key) < 40 || i%4 > round {
					k.delete(t, key)
				}
			}
			if round%2 == 1 {
				for _, key := range k.now.keys() {
					if 2*k.takes > 16*(sectors-24) {
						k.delete(t, key)
					}
				}
				k.save(t)
			}
		}
		has(t, "P12: empty pages", k.x, k.now)
	}
}

// Great pairs that make new pages, and then go and leave a small one where they were: so many small pairs must not stay in pages of their own.
func TestRoomOfPairsThatGo(t *testing.T) {
	for _, length := range []int{5, 40} { // of the greater pairs' keys
		for _, sectors := range []int{40, 64, 200, 400} {
			k := newKeeper(t, sectors)
			for next, from := 1000, 0; next != from; {
				from = next
				for k.put(t, strconv.Itoa(next), "") && k.put(t, text(strconv.Itoa(next)+"x", length), text("v", 100)) {
					next++
				}
				for i := from; i < next; i++ {
					k.delete(t, text(strconv.Itoa(i)+"x", length))
				}
			}
			if k.promised(k.takes + 148) {
				t.Errorf("the test did not come to the edge: %d sectors, %d", sectors, k.takes)
			}
			has(t, "P12: pairs that go", k.x, k.now)
		}
	}
}

// The greatest disk, to the edge twice: half of it is saved, the other half is all other pairs.
func TestRoomOfTheGreatestDisk(t *testing.T) {
	for _, length := range []int{5, 40} {
		k := newKeeper(t, disk.Most)
		half := 8 * (disk.Most - 24)
		for i := 0; i < 9973 && k.takes+length+60 < half; i++ {
			k.put(t, text(strconv.Itoa(1000003*i%9973+10000), length), text("v", i%50))
		}
		k.save(t)
		for _, key := range k.now.keys() {
			if !k.delete(t, key) {
				t.Fatal("P12: there must be room for a Delete")
			}
		}
		many := 0
		for many < 9973 && k.put(t, text(strconv.Itoa(1000003*many%9973+20000), length), text("v", many%50)) {
			many++
		}
		if k.takes+k.saved < 2*half-150 || many < 100 {
			t.Errorf("the test did not come to the edge: %d of %d", k.takes+k.saved, 2*half)
		}
		has(t, "P12: the greatest disk", k.x, k.now)
	}
}

// Where ErrFull is answered nothing has changed, and what can be done is done.
func TestFull(t *testing.T) {
	for shape, size := range shapes() {
		for _, sectors := range []int{16, 17, 24, 32, 100} {
			r := rand.New(rand.NewSource(7))
			d, x := fresh(t, sectors)
			all, full := pairs{}, 0
			for i := 0; full < 12 && i < 20000; i++ {
				n, v := size(r)
				k := text(strconv.Itoa(r.Intn(1000000)), n+2)[:min(40, n+2)]
				err := x.Put([]byte(k), make([]byte, v))
				switch {
				case err == nil:
					all[k] = string(make([]byte, v))
				case err == api.ErrFull:
					full++
					has(t, "P1: "+shape+", behind ErrFull", x, all)
				default:
					t.Fatalf("P10: Put: %v", err)
				}
				if full%3 == 2 {
					done(t, "P11: Save of a full tree", x.Save())
					has(t, "P11: a full tree", opened(t, d, 0, sectors), all)
					full++
				}
			}
			if full < 12 {
				t.Errorf("P10: %s: a tree of %d sectors is never full", shape, sectors)
			}
			deleteAll(t, "P10: "+shape, x, all)
		}
	}
}

// deleteAll deletes what can be deleted from a full tree; behind that and a Save the next ones can be.
func deleteAll(t *testing.T, what string, x *tree.Tree, all pairs) {
	t.Helper()
	full := 0
	for _, k := range all.keys() {
		err := x.Delete([]byte(k))
		if err != nil && err != api.ErrFull {
			t.Fatalf("%s: Delete: %v", what, err)
		}
		if err == nil {
			delete(all, k)
		} else if full++; full < 3 {
			has(t, what+", behind a Delete that was answered by ErrFull", x, all)
		}
		if len(all)%5 == 0 {
			done(t, "P11: Save", x.Save())
		}
	}
	has(t, what+", behind Deletes", x, all)
}

// wantLean: Open and one Get, of a key that is there or is not, read few sectors.
func wantLean(t *testing.T, what string, d *disk.Disk, keys []string) {
	t.Helper()
	for i := 0; i < len(keys); i += 1 + len(keys)/300 {
		for _, k := range []string{keys[i], keys[i][:len(keys[i])-1] + "\x7f"} {
			was := d.Reads()
			x, err := tree.Open(d, 0, d.Sectors())
			done(t, "P9: Open", err)
			if _, err := x.Get([]byte(k)); err != nil && err != api.ErrNone {
				t.Fatalf("P10: Get: %v", err)
			}
			if n := d.Reads() - was; n > 20 {
				t.Fatalf("P12: %s: Open and Get read %d sectors", what, n)
			}
		}
	}
}

// Trees as high as they can be: keys as long as can be, on the greatest disk, until it is full; with pages as full as can be, and as empty.
func TestLean(t *testing.T) {
	for order, arrange := range orders() {
		for _, length := range []int{4, 40} {
			r := rand.New(rand.NewSource(3))
			keys := keysOf(r, func() int { return length }, 30000/length*2)
			arrange(r, keys)
			d, x := fresh(t, disk.Most)
			all := pairs{}
			for _, k := range keys {
				if x.Put([]byte(k), make([]byte, 100)) == nil {
					all[k] = string(make([]byte, 100))
				}
			}
			done(t, "P11: Save", x.Save())
			what := order + " keys of " + strconv.Itoa(length) + " bytes"
			wantLean(t, what, d, all.keys())
			for i, k := range all.keys() {
				if i%3 > 0 {
					x.Delete([]byte(k))
				}
				if i%200 == 0 {
					done(t, "P11: Save", x.Save())
				}
			}
			done(t, "P11: Save", x.Save())
			wantLean(t, what+", many deleted", d, all.keys())
		}
	}
}

// What lies on the disk beside the tree, and what was there before, is not read.
func TestLeanWhateverStoodThere(t *testing.T) {
	d := disk.New(disk.Most)
	for i := range disk.Most {
		d.Write(i, strings.Repeat("x", 256))
	}
	done(t, "P9: Create", tree.Create(d, 0, disk.Most))
	wantLean(t, "an empty tree", d, []string{"a", "b"})
	x := opened(t, d, 0, disk.Most)
	for round := range 30 {
		put(t, x, some(400, round))
		done(t, "P11: Save", x.Save())
		wantLean(t, "a tree that was often saved", d, some(5, 1).keys())
	}
}
