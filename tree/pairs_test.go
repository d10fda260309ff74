package tree_test

import (
	"bytes"
	"math"
	"math/rand"
	"slices"
	"strconv"
	"strings"
	"testing"

	"daybook/api"
	"daybook/tree"
)

// noKeys are of no length that a key has.
func noKeys() [][]byte { return [][]byte{nil, {}, make([]byte, 41), make([]byte, 300)} }

// wantNoKeys: whatever the tree has, and whatever has become of it.
func wantNoKeys(t *testing.T, when string, x *tree.Tree) {
	t.Helper()
	for _, k := range noKeys() {
		if v, err := x.Get(k); err != api.ErrKey || v != nil {
			t.Errorf("P10: Get of a key of %d bytes %s = %q, %v, want ErrKey", len(k), when, v, err)
		}
		for _, size := range []int{0, 100, 101} {
			if err := x.Put(k, make([]byte, size)); err != api.ErrKey {
				t.Errorf("P10: Put of a key of %d bytes %s: %v, want ErrKey", len(k), when, err)
			}
		}
		if err := x.Delete(k); err != api.ErrKey {
			t.Errorf("P10: Delete of a key of %d bytes %s: %v, want ErrKey", len(k), when, err)
		}
	}
	for _, size := range []int{101, 102, 256, 1000} {
		if err := x.Put([]byte("k"), make([]byte, size)); err != api.ErrValue {
			t.Errorf("P10: Put of a value of %d bytes %s: %v, want ErrValue", size, when, err)
		}
	}
	for _, many := range []int{-1, -2, math.MinInt} {
		if l, err := x.Scan(nil, many); err != api.ErrArg || l != nil {
			t.Errorf("P10: Scan of %d %s = %v, %v, want ErrArg", many, when, l, err)
		}
	}
}

func TestSizes(t *testing.T) {
	d, x := fresh(t, 200)
	wantNoKeys(t, "of an empty tree", x)
	has(t, "P1: behind errors", x, nil)
	all := pairs{}
	for _, k := range []int{1, 2, 39, 40} {
		for _, v := range []int{0, 1, 99, 100} {
			all[text(strconv.Itoa(v)+"/", k)] = text("v", v)
		}
	}
	put(t, x, all)
	wantNoKeys(t, "of a tree", x)
	has(t, "P1: behind errors", x, all)
	done(t, "P11: Save", x.Save())
	has(t, "P10: sizes at the edges", opened(t, d, 0, 200), all)
	d.Die(0)
	wantNoKeys(t, "on a dead disk", x)
	x.Save()
	wantNoKeys(t, "behind ErrDisk", x)
}

func TestAnyBytes(t *testing.T) {
	all := pairs{}
	for c := range 256 {
		b := string([]byte{byte(c)})
		all[b] = b
		all[b+"\x00"] = "\x00" + b
		all[b+"\xff"] = strings.Repeat(b, 30)
		all[strings.Repeat(b, 40)] = ""
	}
	all[strings.Repeat("\x00", 39)] = strings.Repeat("\xff", 100)
	d, x := fresh(t, 700)
	put(t, x, all)
	has(t, "P10: any bytes", x, all)
	done(t, "P11: Save", x.Save())
	d.Crash(nil)
	has(t, "P10: any bytes", opened(t, d, 0, 700), all)
}

func TestPutAndDelete(t *testing.T) {
	_, x := fresh(t, 64)
	wantNone := func(k string) {
		t.Helper()
		if v, err := x.Get([]byte(k)); err != api.ErrNone || v != nil {
			t.Errorf("P10: Get(%q) = %q, %v, want ErrNone", k, v, err)
		}
		if err := x.Delete([]byte(k)); err != api.ErrNone {
			t.Errorf("P10: Delete(%q): %v, want ErrNone", k, err)
		}
	}
	wantNone("a")
	all := pairs{"a": "1", "ab": "2", "abc": "3", "b": "4"}
	put(t, x, all)
	for _, k := range []string{"aa", "abb", "abcd", "ac", "A", "c", "\x00", "\xff", "a\x00", text("b", 40)} {
		wantNone(k)
	}
	has(t, "P1: behind ErrNone", x, all)
	for _, v := range []string{"other", "", text("long", 100), "5", "5"} {
		all["ab"] = v
		put(t, x, pairs{"ab": v})
		has(t, "P10: another value", x, all)
	}
	for _, k := range []string{"abc", "a", "b", "ab"} {
		done(t, "P10: Delete", x.Delete([]byte(k)))
		delete(all, k)
		wantNone(k)
		has(t, "P10: Delete", x, all)
	}
	put(t, x, pairs{"a": "again"})
	has(t, "P10: Put behind Delete", x, pairs{"a": "again"})
}

func wantScan(t *testing.T, x *tree.Tree, all pairs, from string, many int) {
	t.Helper()
	found, err := x.Scan([]byte(from), many)
	if want := all.told(from, many); err != nil || !slices.Equal(list(found), want) {
		t.Fatalf("P10: Scan(%q, %d) = %s, %v, want %s", from, many, short(list(found)), err, short(want))
	}
}

func TestScan(t *testing.T) {
	for _, count := range []int{0, 1, 2, 7, 40, 300} {
		_, x := fresh(t, 300)
		all := some(count, 9)
		put(t, x, all)
		froms := []string{"", "\x00", "k", "key", "key ", "key 1", "key 19", "key 1\x00", "key 2", "key 9", "key 99", "key 299", "key 3", "l", "\xff",
			text("key 1", 41), text("key 2", 300), strings.Repeat("\xff", 60), text("\x00", 60), "key 1" + strings.Repeat("\x00", 60)}
		for _, from := range froms {
			for _, many := range []int{0, 1, 2, 6, count - 1, count, count + 1, 1000, math.MaxInt32, math.MaxInt} {
				wantScan(t, x, all, from, max(many, 0))
			}
		}
		for _, k := range all.keys() { // just that key, and just behind it
			wantScan(t, x, all, k, 3)
			wantScan(t, x, all, k+"\x00", 3)
		}
	}
}

// sizes are a way of choosing how long a key and a value are.
type sizes func(r *rand.Rand) (key, value int)

// shapes are all sorts of pairs.
func shapes() map[string]sizes {
	return map[string]sizes{
		"small":     func(r *rand.Rand) (int, int) { return 1 + r.Intn(2), 0 },
		"any":       func(r *rand.Rand) (int, int) { return 1 + r.Intn(40), r.Intn(101) },
		"great":     func(r *rand.Rand) (int, int) { return 40, 100 },
		"long keys": func(r *rand.Rand) (int, int) { return 40, r.Intn(3) },
		"this, that": func(r *rand.Rand) (int, int) {
			if r.Intn(8) == 0 {
				return 40, 100
			}
			return 1 + r.Intn(3), r.Intn(4)
		},
	}
}

// someKey is one of not too many, so that it is met again; its length is nearly what it should be.
func someKey(r *rand.Rand, length int) string {
	b := make([]byte, length)
	for i := range b {
		b[i] = byte('a' + r.Intn(3)*r.Intn(2))
	}
	b[0] = byte(r.Intn(256))
	return string(b)
}

// A tree is what a map of pairs is, whatever is done to it in whatever order.
func TestLikeAMap(t *testing.T) {
	for name, shape := range shapes() {
		for seed := range 2 {
			r := rand.New(rand.NewSource(int64(seed)))
			d, x := fresh(t, 2000)
			all := pairs{}
			for step := range 2500 {
				keys, values := shape(r)
				k, v := someKey(r, keys), text(strconv.Itoa(step)+" ", values)
				if len(all) > 0 && r.Intn(3) == 0 {
					wantScan(t, x, all, k, 1+r.Intn(4))
					found, _ := x.Scan([]byte(k), 1)
					if len(found) == 1 {
						k = string(found[0].Key)
					}
				}
				_, there := all[k]
				switch grow := step/600%2 == 0; {
				case r.Intn(10) < 3 == grow:
					if err := x.Delete([]byte(k)); err != nil != !there || err != nil && err != api.ErrNone {
						t.Fatalf("P10: %s: Delete(%q): %v; was it there: %v", name, k, err, there)
					}
					delete(all, k)
				default:
					done(t, "P10: "+name+": Put", x.Put([]byte(k), []byte(v)))
					all[k] = v
				}
				if step%250 == 249 {
					has(t, "P10: "+name, x, all)
				}
				if r.Intn(60) == 0 {
					done(t, "P11: Save", x.Save())
					if r.Intn(2) == 0 {
						d.Crash(nil)
						x = opened(t, d, 0, 2000)
					}
				}
			}
			for _, k := range all.keys() {
				done(t, "P10: Delete", x.Delete([]byte(k)))
			}
			has(t, "P10: "+name+", all deleted", x, nil)
		}
	}
}

// spare is a text with room behind it that is not the callee's.
func spare(text string) []byte {
	b := bytes.Repeat([]byte{'#'}, len(text)+20)
	copy(b, text)
	return b[:len(text)]
}

func TestWhatIsHandedInIsOnlyRead(t *testing.T) {
	_, x := fresh(t, 100)
	put(t, x, some(30, 20))
	wantSame := func(what string, b []byte, want string) {
		t.Helper()
		if string(b) != want || string(b[:cap(b)][len(b):len(b)+20]) != strings.Repeat("#", 20) {
			t.Errorf("P2: %s changed what it was handed: %q", what, b[:cap(b)])
		}
	}
	k, v := spare("key 7"), spare("another value")
	done(t, "P10: Put", x.Put(k, v))
	wantSame("Put", k, "key 7")
	wantSame("Put", v, "another value")
	x.Get(k)
	wantSame("Get", k, "key 7")
	x.Scan(k, 5)
	wantSame("Scan", k, "key 7")
	gone := spare("key 8")
	done(t, "P10: Delete", x.Delete(gone))
	wantSame("Delete", gone, "key 8")
	all := some(30, 20)
	delete(all, "key 8")
	all["key 7"] = "another value"
	for _, b := range [][]byte{k, v, gone} { // it is not kept
		clear(b[:cap(b)])
	}
	has(t, "P2: behind what the caller wrote", x, all)
	done(t, "P11: Save", x.Save())
	has(t, "P2: behind what the caller wrote", x, all)
}

// fill writes over a list, and the room behind it.
func fill(b []byte) {
	b = b[:cap(b)]
	for i := range b {
		b[i] = 'X'
	}
}

func TestAnswersAreTheCallers(t *testing.T) {
	_, x := fresh(t, 100)
	all := some(30, 20)
	all["nothing"] = ""
	put(t, x, all)
	for k := range all {
		v, err := x.Get([]byte(k))
		done(t, "P10: Get", err)
		fill(v)
	}
	has(t, "P2: behind what the caller wrote into a value", x, all)
	found, err := x.Scan(nil, 100)
	done(t, "P10: Scan", err)
	again, _ := x.Scan(nil, 100)
	for i := range found {
		want := string(found[i].Value)
		fill(found[i].Key)
		if string(found[i].Value) != want {
			t.Errorf("P2: pair %d: key and value share memory", i)
		}
		for j := i + 1; j < len(found); j++ {
			if string(found[j].Key) != string(again[j].Key) || string(found[j].Value) != string(again[j].Value) {
				t.Fatalf("P2: the pairs %d and %d share memory", i, j)
			}
		}
		fill(found[i].Value)
	}
	clear(found[:cap(found)])
	if len(list(again)) != len(all) || !slices.Equal(list(again), all.told("", 100)) {
		t.Error("P2: two answers share memory")
	}
	has(t, "P2: behind what the caller wrote into pairs", x, all)
}
