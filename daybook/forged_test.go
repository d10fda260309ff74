package daybook_test

import (
	"strings"
	"testing"

	"daybook/api"
	"daybook/daybook"
	"daybook/disk"
	"daybook/numbers"
	"daybook/sums"
	"daybook/tree"
	"daybook/wal"
)

// logSectors is how many sectors at the beginning of a disk the log has.
const logSectors = 17

// treeAt is where the tree begins, behind two sectors more.
const treeAt = 19

// forgedLog is a disk whose log has these payloads, numbered from 1 on.
func forgedLog(t *testing.T, payloads ...string) *disk.Disk {
	t.Helper()
	d := formatted(t, 640)
	l, err := wal.Open(d, 0, logSectors)
	fine(t, "P6: Open", err)
	for i, p := range payloads {
		fine(t, "P7: Append", l.Append(append(numbers.Append(nil, uint64(i+1), 4), p...)))
	}
	fine(t, "P7: Sync", l.Sync())
	return d
}

// forgedTree is a disk whose tree has these payloads, of at most 100 bytes each, numbered from 1 on.
func forgedTree(t *testing.T, payloads ...string) *disk.Disk {
	t.Helper()
	d := formatted(t, 640)
	x, err := tree.Open(d, treeAt, 640-treeAt)
	fine(t, "P9: Open", err)
	for i, p := range payloads {
		fine(t, "P10: Put", x.Put(append(numbers.Append(nil, uint64(i+1), 4), 0), []byte(p)))
	}
	fine(t, "P11: Save", x.Save())
	return d
}

// resealed is a payload without its last four bytes, with the check that it should have.
func resealed(p string) string {
	b := []byte(p[:len(p)-4])
	return string(numbers.Append(b, uint64(sums.Check(b)), 4))
}

// What is laid down as transactions but can be none is ErrForm, though all sums are right.
func TestForgedTransactions(t *testing.T) {
	first := does(1, create("t", kv()...))
	many := does(1)
	for range api.MaxOps + 1 {
		many.acts = append(many.acts, remove("t", num(1)))
	}
	for what, x := range map[string]deal{
		"an op of no table":              does(2, insert("nosuch", num(1), txt(""))),
		"a table that is there":          does(2, create("t", kv()...)),
		"a fifth table":                  does(2, create("a", kv()...), create("b", kv()...), create("c", kv()...), create("d", kv()...)),
		"a row of too few":               does(2, insert("t", num(1))),
		"a row of another type":          does(2, insert("t", num(1), num(1))),
		"a row that is there":            does(2, insert("t", num(1), txt("")), insert("t", num(1), txt(""))),
		"an update of no row":            does(2, update("t", num(1), txt(""))),
		"a delete of no row":             does(2, remove("t", num(1))),
		"a delete of another type":       does(2, remove("t", txt(""))),
		"no ops":                         does(2),
		"too many ops":                   many,
		"no name":                        does(2, create("T", kv()...)),
		"no columns":                     does(2, create("u")),
		"a text that is too long":        does(2, insert("t", num(1), txt(strings.Repeat("x", 17)))),
		"a row behind one that is wrong": does(2, remove("t", num(1)), insert("t", num(1), txt(""))),
	} {
		for _, forge := range []func(*testing.T, ...string) *disk.Disk{forgedLog, forgedTree} {
			p := string(x.payload())
			if len(p) > 100 {
				forge = forgedLog
			}
			b, err := daybook.Open(forge(t, string(first.payload()), p))
			wants(t, "P13: Open where a transaction has "+what, err, api.ErrForm, "")
			if b != nil {
				t.Error("P1: a database beside ErrForm")
			}
		}
	}
}

// Bytes of a payload are turned, and its check is made right again: that is a transaction, or ErrForm.
func TestForgedPayloads(t *testing.T) {
	first, second := string(short()[0].payload()), string(does(2, update("t", num(5), txt("y")), insert("t", num(6), txt("z"))).payload())
	for _, forge := range []func(*testing.T, ...string) *disk.Disk{forgedLog, forgedTree} {
		is(t, "P13: what is not forged", opened(t, forge(t, first, second)), ledger{short()[0], does(2, update("t", num(5), txt("y")), insert("t", num(6), txt("z")))})
		for at := range len(second) {
			b := []byte(second)
			b[at] ^= 1
			_, err := daybook.Open(forge(t, first, string(b)))
			wants(t, "P13: Open where a check is wrong", err, api.ErrForm, "")
			if x, err := daybook.Open(forge(t, first, resealed(string(b)))); err == nil {
				if got, err := x.Transaction(2); err != nil || string(got) != resealed(string(b)) {
					t.Errorf("P18: Transaction(2) = %x, %v", got, err)
				}
			} else {
				wants(t, "P13: Open where a payload is wrong", err, api.ErrForm, "")
			}
			_, err = daybook.Open(forge(t, first, second[:at+1]))
			if at < len(second)-1 {
				wants(t, "P13: Open where a payload is cut off", err, api.ErrForm, "")
			}
		}
	}
}

// A payload that somebody has changed while the database is open is ErrForm, if it is none any more.
func TestForgedWhileOpen(t *testing.T) {
	d, b := made(t, 640, short()...)
	fine(t, "P19: Checkpoint", b.Checkpoint())
	x, err := tree.Open(d, treeAt, 640-treeAt)
	fine(t, "P9: Open", err)
	fine(t, "P10: Put", x.Put([]byte{0, 0, 0, 2, 0}, []byte("no payload")))
	fine(t, "P10: Delete", x.Delete([]byte{0, 0, 0, 3, 0}))
	fine(t, "P11: Save", x.Save())
	for _, n := range []int{2, 3} {
		p, err := b.Transaction(n)
		wants(t, "P18: Transaction of what is no payload", err, api.ErrForm, "")
		if p != nil {
			t.Error("P1: a payload beside ErrForm")
		}
	}
	if p, err := b.Transaction(1); err != nil || string(p) != string(short()[0].payload()) {
		t.Errorf("P18: Transaction(1) = %x, %v", p, err)
	}
}
