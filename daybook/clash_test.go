package daybook_test

import (
	"bytes"
	"encoding/binary"
	"fmt"
	"hash/crc32"
	"math"
	"slices"
	"strings"
	"testing"

	"daybook/api"
	"daybook/daybook"
)

// clashes: Clash finds these two texts, and the other way round, too.
func clashes(t *testing.T, what string, p, q [][]byte, x, y string) {
	t.Helper()
	for range 2 {
		a, b, err := daybook.Clash(p, q)
		if err != nil || string(a) != x || string(b) != y {
			t.Errorf("P25: %s: Clash = %q, %q, %v, want %q, %q", what, a, b, err, x, y)
		}
		if bytes.Equal(a, b) || sumOf(a) != sumOf(b) {
			t.Errorf("P25: %s: %q and %q are no clash", what, a, b)
		}
		p, q, x, y = q, p, y, x
	}
}

// clashesSomehow: Clash finds two texts that are as they must be.
func clashesSomehow(t *testing.T, what string, l, m ledger) {
	t.Helper()
	x, y, err := daybook.Clash(l.payloads(), m.payloads())
	among := func(text []byte, all [][]byte) bool {
		return slices.ContainsFunc(all, func(s []byte) bool { return bytes.Equal(s, text) })
	}
	if err != nil || bytes.Equal(x, y) || sumOf(x) != sumOf(y) || !among(x, l.summed()) || !among(y, m.summed()) {
		t.Errorf("P25: %s: Clash = %q, %q, %v", what, x, y, err)
	}
}

// fails: Clash answers this, and nothing beside it.
func fails(t *testing.T, what string, p, q [][]byte, kind api.Kind) {
	t.Helper()
	for range 2 {
		if x, y, err := daybook.Clash(p, q); err != error(kind) || x != nil || y != nil {
			t.Errorf("P25: %s: Clash = %q, %q, %v, want %v", what, x, y, err, kind)
		}
		p, q = q, p
	}
}

func value(h api.Hash) uint64 { return uint64(binary.BigEndian.Uint32(h[:])) }

func hashOf(v uint64) api.Hash { return api.Hash(number4(int(v))) }

// digits are those of a number by 33, in so many bytes; false: there is no room.
func digits(v uint64, many int) ([]byte, bool) {
	all := make([]byte, many)
	for i := many - 1; i >= 0; i-- {
		all[i] = byte(v % 33)
		v /= 33
	}
	return all, v == 0
}

// missing is what a sum must be raised by to be another one.
func missing(text []byte, sum uint64) uint64 { return (sum + modulus - value(sumOf(text))) % modulus }

// power is 33 to the so-manieth, taken by the modulus.
func power(n int) uint64 {
	p := uint64(1)
	for range n {
		p = p * 33 % modulus
	}
	return p
}

// back5 times 33 to the fifth is 1.
func back5() uint64 {
	back, base := uint64(1), power(5)
	for e := uint64(modulus - 2); e > 0; e /= 2 {
		if e%2 == 1 {
			back = back * base % modulus
		}
		base = base * base % modulus
	}
	return back
}

// rowWith is an op that has this sum as a leaf.
func rowWith(key int, sum uint64) act {
	const room = 7 // 33 to the seventh is more than any sum
	a := insert("t", num(key), txt(strings.Repeat("\x00", room)))
	d, _ := digits(missing(join([]byte{0}, a.text()), sum), room)
	return insert("t", num(key), txt(string(d)))
}

// timed is the transaction with this number at a time by which its entry has this sum as a leaf.
func timed(number int, x deal, sum uint64) deal {
	x.time = 0
	l := make(ledger, number)
	l[number-1] = x
	d, _ := digits(missing(join([]byte{0}, l.entry(number)), sum)*back5()%modulus, 8)
	x.time = int(binary.BigEndian.Uint64(d))
	return x
}

// leafOf is the sum of an entry as a leaf.
func (l ledger) leafOf(number int) uint64 { return value(sumOf(join([]byte{0}, l.entry(number)))) }

// rooted is a ledger whose last three transactions have other times, by which the root of their entries is this one.
func rooted(t *testing.T, l ledger, root api.Hash) ledger {
	t.Helper()
	l = l.with()
	last := len(l)
	for time := range 1 << 20 {
		l[last-3].time = time
		left := rootOf([][]byte{l.entry(last - 2), l.entry(last - 1)})
		more := missing(join([]byte{1}, left[:], make([]byte, 4)), value(root))
		right := make([]byte, 4)
		for i, weight := range []uint64{33 * 33 * 33, 33 * 33, 33, 1} {
			right[i] = byte(min(more/weight, 254))
			more -= uint64(right[i]) * weight
		}
		if more == 0 {
			l[last-1] = timed(last, l[last-1], value(api.Hash(right)))
			if rootOf(l.entries(last/3)) == root {
				return l
			}
		}
	}
	t.Fatal("P25: no times were found")
	return nil
}

// moved are two hashes, one behind the other, of which the one's last byte is greater by one, and the other's first less by 33: behind each other they have the sum that they had. False: there is no room for that.
func moved(a, b api.Hash) (api.Hash, api.Hash, bool) {
	ok := a[3] < 255 && b[0] >= 33
	a[3]++
	b[0] -= 33
	return a, b, ok
}

// clash is two ledgers, and the two texts in them that have one sum.
type clash struct {
	what string
	p, q ledger
	x, y []byte
}

// ahead are some transactions of whole blocks, ahead of those that are looked at; they make the table, too.
func ahead(blocks int) ledger {
	l := ledger{does(1, create("t", kv()...))}
	for i := 1; i < 3*blocks; i++ {
		l = l.with(does(i, insert("t", num(i), txt(fmt.Sprint("row ", i)))))
	}
	return l
}

// behind are two blocks more.
func behind(l ledger) ledger {
	for i := range 6 {
		l = l.with(does(100+i, insert("t", num(1000+i), txt("more")), remove("t", num(1000+i))))
	}
	return l
}

// inOps are clashes in the trees of ops of the transaction n, which has so many.
func inOps(t *testing.T, l ledger, n, many int) []clash {
	t.Helper()
	var all []clash
	p := l.with()
	p[n-1].acts = nil
	for i := range many {
		p[n-1].acts = append(p[n-1].acts, insert("t", num(2000+i), txt(fmt.Sprintf("%02d2z", i))))
	}
	change := func(acts map[int]act) ledger {
		q := p.with()
		q[n-1].acts = slices.Clone(q[n-1].acts)
		for i, a := range acts {
			q[n-1].acts[i] = a
		}
		return q
	}
	for i := range many {
		q := change(map[int]act{i: insert("t", num(2000+i), txt(fmt.Sprintf("%02d3Y", i)))})
		all = append(all, clash{fmt.Sprintf("leaf %d of %d ops of transaction %d", i, many, n), p, q, join([]byte{0}, p[n-1].acts[i].text()), join([]byte{0}, q[n-1].acts[i].text())})
	}
	for i := 0; i+1 < many; i += 2 {
		p = change(nil)
		for salt := 0; ; salt++ { // till the bytes have room
			p[n-1].acts[i] = insert("t", num(2000+i), txt(fmt.Sprint("salt", salt)))
			p[n-1].acts[i+1] = insert("t", num(2001+i), txt(fmt.Sprint("more", salt)))
			pair := p[n-1].ops()[i : i+2]
			left, right, ok := moved(rootOf(pair[:1]), rootOf(pair[1:]))
			if !ok {
				continue
			}
			q := change(map[int]act{i: rowWith(2000+i, value(left)), i + 1: rowWith(2001+i, value(right))})
			all = append(all, clash{fmt.Sprintf("inner text above %d of %d ops of transaction %d", i, many, n), p, q, topText(pair), topText(q[n-1].ops()[i : i+2])})
			break
		}
	}
	return all
}

// aboveFour is a clash in the topmost text of four ops of the transaction n, which tells the roots of two pairs of them.
func aboveFour(l ledger, n int) clash {
	for salt := 0; ; salt++ {
		p, q := l.with(), l.with()
		p[n-1].acts = nil
		for i := range 4 {
			p[n-1].acts = append(p[n-1].acts, insert("t", num(2000+i), txt(fmt.Sprint("salt", salt))))
		}
		ops := p[n-1].ops()
		left, right, ok := moved(rootOf(ops[:2]), rootOf(ops[2:]))
		second := value(rootOf(ops[1:2]))
		if !ok || second%256 == 255 {
			continue
		}
		pair, _ := digits(missing(join([]byte{1}, make([]byte, 8)), value(right)), 8)
		q[n-1].acts = []act{p[n-1].acts[0], rowWith(2001, second+1), rowWith(2002, value(api.Hash(pair[:4]))), rowWith(2003, value(api.Hash(pair[4:])))}
		if rootOf(q[n-1].ops()[:2]) == left {
			return clash{fmt.Sprintf("topmost text of four ops of transaction %d", n), p, q, topText(ops), topText(q[n-1].ops())}
		}
	}
}

// inEntries are clashes in the tree of entries of the last block.
func inEntries(t *testing.T, l ledger) []clash {
	t.Helper()
	var all []clash
	n := len(l)
	leaf := func(l ledger, n int) []byte { return join([]byte{0}, l.entry(n)) }
	for i := range 3 { // two bytes of a time
		p, q := l.with(), l.with()
		p[n-1-i].time, q[n-1-i].time = 5<<8|40, 6<<8|7
		all = append(all, clash{fmt.Sprintf("leaf %d of the entries, by its time", 2-i), p, q, leaf(p, n-i), leaf(q, n-i)})
	}
	for salt := 0; ; salt++ { // two bytes of the root of the ops
		p := l.with()
		p[n-2].acts = []act{insert("t", num(3000), txt(fmt.Sprint("salt", salt)))}
		root := rootOf(p[n-2].ops())
		if root[1] < 255 && root[2] >= 33 {
			root[1]++
			root[2] -= 33
			q := p.with()
			q[n-2].acts = []act{rowWith(3000, value(root))}
			all = append(all, clash{"leaf 1 of the entries, by the root of its ops", p, q, leaf(p, n-1), leaf(q, n-1)})
			break
		}
	}
	for time := 0; ; time++ { // the two on the left
		p := l.with()
		p[n-2].time = time
		left, right, ok := moved(hashOf(p.leafOf(n-2)), hashOf(p.leafOf(n-1)))
		if ok {
			q := p.with()
			q[n-3], q[n-2] = timed(n-2, q[n-3], value(left)), timed(n-1, q[n-2], value(right))
			block := n / 3
			all = append(all, clash{"lower inner text of the entries", p, q, topText(p.entries(block)[:2]), topText(q.entries(block)[:2])})
			break
		}
	}
	for time := 0; ; time++ { // both sides of the topmost text; the left one is raised by its last byte
		p := l.with()
		p[n-1].time = time
		block := n / 3
		left, right, ok := moved(rootOf(p.entries(block)[:2]), hashOf(p.leafOf(n)))
		second := p.leafOf(n - 1)
		if ok && second%256 < 255 {
			q := p.with()
			q[n-2], q[n-1] = timed(n-1, q[n-2], second+1), timed(n, q[n-1], value(right))
			if rootOf(q.entries(block)[:2]) == left {
				all = append(all, clash{"topmost text of the entries", p, q, topText(p.entries(block)), topText(q.entries(block))})
				break
			}
		}
	}
	return all
}

// inHeader are clashes in the header of the last block: by its root alone; and by the hash ahead, too, if there is a block ahead.
func inHeader(t *testing.T, l ledger) []clash {
	t.Helper()
	block := l.closed()
	var all []clash
	for time := 0; len(all) == 0; time++ {
		p := l.with()
		p[len(p)-1].time = time
		root := rootOf(p.entries(block))
		if root[0] < 254 && root[1] >= 33 {
			root[0]++
			root[1] -= 33
			q := rooted(t, p, root)
			all = append(all, clash{"header, by its root", p, q, p.header(block), q.header(block)})
		}
	}
	for time := 0; block > 1 && len(all) == 1; time++ {
		p, q := l.with(), l.with()
		q[len(q)-4].time = 10000 + time
		hash, root := p.hash(block-1), rootOf(p.entries(block))
		other := q.hash(block - 1)
		more := missing(join([]byte{'B'}, number4(block), other[:], make([]byte, 4)), value(p.hash(block)))
		if hash == other || more > 254*33*33*33 {
			continue
		}
		for i, weight := range []uint64{33 * 33 * 33, 33 * 33, 33, 1} {
			root[i] = byte(more / weight)
			more %= weight
		}
		q = rooted(t, q, root)
		all = append(all, clash{"header, by the hash of the block ahead", p, q, p.header(block), q.header(block)})
	}
	return all
}

// Texts with one sum are found wherever they lie: in a header, in the trees of entries and of ops, in the first block and in later ones, with blocks behind and without.
func TestClash(t *testing.T) {
	for _, blocks := range []int{1, 2, 4} {
		l := ahead(blocks)
		all := append(inEntries(t, l), inHeader(t, l)...)
		for _, n := range []int{len(l) - 1, len(l)} {
			all = append(all, aboveFour(l, n))
			for _, many := range []int{1, 2, 3, 4, 7, 16} {
				all = append(all, inOps(t, l, n, many)...)
			}
		}
		seen := 0
		for _, c := range all {
			if c.p.digest() != c.q.digest() || bytes.Equal(c.x, c.y) || sumOf(c.x) != sumOf(c.y) {
				t.Fatalf("%s, %d blocks: what was made by hand is no clash", c.what, blocks)
			}
			seen++
			what := fmt.Sprintf("%s, block %d", c.what, blocks)
			clashes(t, what, c.p.payloads(), c.q.payloads(), string(c.x), string(c.y))
			clashesSomehow(t, what, c.p, c.q)
			p, q := behind(c.p), behind(c.q)
			clashes(t, what+" of more", p.payloads(), q.payloads(), string(c.x), string(c.y))
			fails(t, what+" and itself", c.p.payloads(), c.p.payloads(), api.ErrSame)
			q[len(q)-1].time++
			fails(t, what+", but the last hashes are not one", p.payloads(), q.payloads(), api.ErrSame)
		}
		if seen < 50 {
			t.Errorf("P25: %d clashes were made", seen)
		}
	}
}

// Where there are several, one of them is told.
func TestClashes(t *testing.T) {
	l := behind(ahead(2))
	m := l.with()
	for i := range m {
		if i > 0 {
			l[i].acts, m[i].acts = []act{insert("t", num(i), txt("a2z"))}, []act{insert("t", num(i), txt("a3Y"))}
		}
		l[i].time, m[i].time = i<<16|5<<8|40, i<<16|6<<8|7
	}
	clashesSomehow(t, "clashes everywhere", l, m)
	for i := range l {
		n := l.with()
		n[i].time = m[i].time
		clashesSomehow(t, fmt.Sprint("a clash in entry ", i), l, n)
		n = m.with()
		n[i].acts = l[i].acts
		clashesSomehow(t, fmt.Sprint("clashes everywhere but in op ", i), l, n)
	}
}

func TestClashOfTheSame(t *testing.T) {
	for name, l := range ledgers() {
		for n := 3; n <= len(l); n += 3 {
			p := l[:n].payloads()
			fails(t, name+", of one with itself", p, p, api.ErrSame)
			fails(t, name+", of one with its like", p, l[:n].payloads(), api.ErrSame)
			for i := range min(n, 12) {
				m := l[:n].with()
				m[i].time++
				fails(t, name+", of another time", p, m.payloads(), api.ErrSame)
			}
		}
	}
}

func sealed(text string) []byte {
	return binary.BigEndian.AppendUint32([]byte(text), crc32.ChecksumIEEE([]byte(text)))
}

// noPayloads are texts that are not of the form of a payload; each in one thing.
func noPayloads() map[string][]byte {
	const time, eight = "\x00\x00\x00\x00\x00\x00\x00\x07", "\x00\x00\x00\x00\x00\x00\x00\x05"
	all := map[string][]byte{
		"nothing":           nil,
		"no bytes":          {},
		"a check alone":     sealed(""),
		"a time alone":      sealed(time),
		"no op":             sealed(time + "\x00"),
		"17 ops":            sealed(time + "\x11" + strings.Repeat("\x04\x01t\x01"+eight, 17)),
		"255 ops":           sealed(time + "\xff" + strings.Repeat("\x04\x01t\x01"+eight, 255)),
		"an op too few":     sealed(time + "\x02" + "\x04\x01t\x01" + eight),
		"an op too many":    sealed(time + "\x01" + strings.Repeat("\x04\x01t\x01"+eight, 2)),
		"great bytes":       bytes.Repeat([]byte{255}, 2000),
		"a check of others": append(does(1, remove("t", num(1))).payload()[:21], 1, 2, 3, 4),
	}
	for what, op := range map[string]string{
		"an op of kind 0":               "\x00\x01t\x01" + eight,
		"an op of kind 5":               "\x05\x01t\x01" + eight,
		"a table without a name":        "\x04\x00\x01" + eight,
		"a name of nine letters":        "\x04\x09abcdefghi\x01" + eight,
		"a name with a great letter":    "\x04\x01T\x01" + eight,
		"a name with a nought":          "\x02\x02t\x00\x01\x01" + eight,
		"no columns":                    "\x01\x01t\x00",
		"five columns":                  "\x01\x01t\x05\x01a\x01\x01b\x01\x01c\x01\x01d\x01\x01e\x01",
		"a column without a name":       "\x01\x01t\x01\x00\x01",
		"a column of nine letters":      "\x01\x01t\x01\x09abcdefghi\x01",
		"a column with a digit":         "\x01\x01t\x01\x011\x01",
		"a column of type 0":            "\x01\x01t\x01\x01k\x00",
		"a column of type 3":            "\x01\x01t\x01\x01k\x03",
		"two columns of one name":       "\x01\x01t\x02\x01k\x01\x01k\x02",
		"columns one and three alike":   "\x01\x01t\x03\x01k\x01\x01l\x02\x01k\x01",
		"a row without a value":         "\x02\x01t\x00",
		"a row of five":                 "\x02\x01t\x05" + strings.Repeat("\x01"+eight, 5),
		"an update without a value":     "\x03\x01t\x00",
		"an update of five":             "\x03\x01t\x05" + strings.Repeat("\x01"+eight, 5),
		"a value of type 0":             "\x02\x01t\x01\x00" + eight,
		"a value of type 3":             "\x02\x01t\x01\x03" + eight,
		"a text of 17 bytes":            "\x02\x01t\x01\x02\x11" + strings.Repeat("x", 17),
		"a text of 255 bytes":           "\x03\x01t\x01\x02\xff" + strings.Repeat("x", 255),
		"a key of type 0":               "\x04\x01t\x00" + eight,
		"a key of 17 bytes":             "\x04\x01t\x02\x11" + strings.Repeat("x", 17),
		"a number of seven bytes":       "\x04\x01t\x01" + eight[:7],
		"a text that is cut off":        "\x04\x01t\x02\x02x",
		"a row that is cut off":         "\x02\x01t\x02\x01" + eight,
		"a column that is cut off":      "\x01\x01t\x01\x01k",
		"a kind alone":                  "\x02",
		"a key with one byte behind it": "\x04\x01t\x01" + eight + "\x00",
	} {
		all[what] = sealed(time + "\x01" + op)
	}
	right := does(3, create("u", kv()...), insert("u", num(1), txt("abc")), update("u", num(1), txt("")), remove("u", num(1))).payload()
	for n := range len(right) {
		all[fmt.Sprintf("%d bytes of a payload", n)] = right[:n]
		if n != len(right)-4 {
			all[fmt.Sprintf("%d bytes of a payload, with a check", n)] = sealed(string(right[:n]))
		}
		turned := slices.Clone(right)
		turned[n] ^= 0x10
		all[fmt.Sprintf("a payload with byte %d turned", n)] = turned
	}
	all["a payload with a byte behind it"] = append(slices.Clone(right), 0)
	all["a payload with a byte ahead of it"] = append([]byte{0}, right...)
	return all
}

// Lists that are no past: of other lengths, of none, of no multiple of PerBlock, or with something that is no payload.
func TestClashOfNoPast(t *testing.T) {
	l := long()[:9]
	p := l.payloads()
	for n := range len(p) + 1 {
		for m := range len(p) + 1 {
			if n != m || n%3 != 0 || n == 0 {
				fails(t, fmt.Sprintf("%d and %d payloads", n, m), p[:n], p[:m], api.ErrLog)
			}
		}
	}
	fails(t, "nothing", nil, nil, api.ErrLog)
	fails(t, "nothing", [][]byte{}, nil, api.ErrLog)
	fails(t, "three of nothing", make([][]byte, 3), make([][]byte, 3), api.ErrLog)
	for what, wrong := range noPayloads() {
		for at := range 6 {
			q := slices.Clone(p[:6])
			q[at] = wrong
			fails(t, what, p[:6], q, api.ErrLog)
			fails(t, what, q, q, api.ErrLog)
			fails(t, what+" in a longer one", p, q, api.ErrLog)
		}
	}
}

// What is of the form of a payload is taken, though no database can have had it: ops of no table, twice the same, of wrong types, in any order.
func TestClashOfAnyPast(t *testing.T) {
	odd := []deal{
		does(math.MinInt, remove("nosuch", txt("")), remove("nosuch", txt(""))),
		does(0, insert("t", num(1)), insert("t", txt("x"), num(1), txt(strings.Repeat("\xff", 16)), num(math.MinInt))),
		does(math.MaxInt, create("t", kv()...), create("t", kv()...), update("u", num(4), num(5))),
	}
	fails(t, "odd ones", ledger(odd).payloads(), ledger(odd).payloads(), api.ErrSame)
	other := ledger(odd).with()
	other[1].time = 1
	fails(t, "odd ones", ledger(odd).payloads(), other.payloads(), api.ErrSame)
	p, q := ledger(odd).with(), ledger(odd).with()
	p[2].acts, q[2].acts = []act{update("nosuch", txt("2z"))}, []act{update("nosuch", txt("3Y"))}
	clashes(t, "odd ones", p.payloads(), q.payloads(), "\x00"+string(p[2].acts[0].text()), "\x00"+string(q[2].acts[0].text()))
}

// Lists of many payloads.
func TestClashOfMany(t *testing.T) {
	var p, q [][]byte
	for i := range 30000 {
		x := does(i, insert("t", num(i), txt("2z"))).payload()
		p, q = append(p, x), append(q, x)
	}
	fails(t, "many", p, q, api.ErrSame)
	q[1] = does(1, insert("t", num(1), txt("3Y"))).payload()
	clashes(t, "many", p, q, "\x00"+string(insert("t", num(1), txt("2z")).text()), "\x00"+string(insert("t", num(1), txt("3Y")).text()))
}
