package daybook_test

import (
	"errors"
	"maps"
	"testing"

	"daybook/api"
	"daybook/daybook"
	"daybook/disk"
)

// question is a call of a database whose answer is told as an error and whether the other result is its zero value.
type question struct {
	name string
	ask  func(b *daybook.DB) (error, bool)
}

func only(ask func(b *daybook.DB) error) func(b *daybook.DB) (error, bool) {
	return func(b *daybook.DB) (error, bool) { return ask(b), true }
}

// questions are all methods, with what is right and with what is wrong.
func questions() []question {
	return []question{
		{"Begin", only(func(b *daybook.DB) error { return b.Begin(1) })},
		{"Create", only(func(b *daybook.DB) error { return b.Create("fresh", kv()) })},
		{"Create of no name", only(func(b *daybook.DB) error { return b.Create("", nil) })},
		{"Insert", only(func(b *daybook.DB) error { return b.Insert("t", row(num(1), txt("a"))) })},
		{"Insert into no table", only(func(b *daybook.DB) error { return b.Insert("nosuch", nil) })},
		{"Update", only(func(b *daybook.DB) error { return b.Update("t", row(num(5), txt("a"))) })},
		{"Update of no row", only(func(b *daybook.DB) error { return b.Update("t", nil) })},
		{"Delete", only(func(b *daybook.DB) error { return b.Delete("t", num(5)) })},
		{"Delete of no row", only(func(b *daybook.DB) error { return b.Delete("t", txt("5")) })},
		{"Get", func(b *daybook.DB) (error, bool) { r, err := b.Get("t", num(5)); return err, r == nil }},
		{"Get of no row", func(b *daybook.DB) (error, bool) { r, err := b.Get("t", num(4)); return err, r == nil }},
		{"Scan", func(b *daybook.DB) (error, bool) { l, err := b.Scan("t"); return err, l == nil }},
		{"Scan of no table", func(b *daybook.DB) (error, bool) { l, err := b.Scan("nosuch"); return err, l == nil }},
		{"History", func(b *daybook.DB) (error, bool) { l, err := b.History("t"); return err, l == nil }},
		{"History of no table", func(b *daybook.DB) (error, bool) { l, err := b.History("nosuch"); return err, l == nil }},
		{"Transaction 1", func(b *daybook.DB) (error, bool) { p, err := b.Transaction(1); return err, p == nil }},
		{"Transaction 4", func(b *daybook.DB) (error, bool) { p, err := b.Transaction(4); return err, p == nil }},
		{"Transaction 0", func(b *daybook.DB) (error, bool) { p, err := b.Transaction(0); return err, p == nil }},
		{"Checkpoint", only(func(b *daybook.DB) error { return b.Checkpoint() })},
		{"Commit", func(b *daybook.DB) (error, bool) { n, err := b.Commit(); return err, n == 0 }},
		{"Abort", only(func(b *daybook.DB) error { return b.Abort() })},
		{"Digest", func(b *daybook.DB) (error, bool) { g, err := b.Digest(); return err, g == api.Digest{} }},
		{"Prove", func(b *daybook.DB) (error, bool) { p, err := b.Prove(api.Digest{}); return err, p == nil }},
		{"Verify", only(func(b *daybook.DB) error { return b.Verify(api.Digest{}) })},
		{"Attest", func(b *daybook.DB) (error, bool) { e, err := b.Attest(1, 0); return err, e == nil }},
		{"Prove of a block", func(b *daybook.DB) (error, bool) { p, err := b.Prove(firstBlock()); return err, p == nil }},
		{"Verify of a block", only(func(b *daybook.DB) error { return b.Verify(firstBlock()) })},
		{"Attest of a last op", func(b *daybook.DB) (error, bool) { e, err := b.Attest(3, 2); return err, e == nil }},
	}
}

// firstBlock is the digest of the first block of most databases here.
func firstBlock() api.Digest { return short().digest() }

// wrongOfChain are the methods of the chain with what is wrong for any database.
func wrongOfChain() []question {
	wrong := api.Digest{Blocks: -1, Hash: api.Hash{1}}
	return []question{
		{"Prove of a wrong digest", func(b *daybook.DB) (error, bool) { p, err := b.Prove(wrong); return err, p == nil }},
		{"Verify of a wrong digest", only(func(b *daybook.DB) error { return b.Verify(wrong) })},
		{"Attest of no transaction", func(b *daybook.DB) (error, bool) { e, err := b.Attest(0, 0); return err, e == nil }},
		{"Attest of no op", func(b *daybook.DB) (error, bool) { e, err := b.Attest(1, -1); return err, e == nil }},
		{"Attest of too great an op", func(b *daybook.DB) (error, bool) { e, err := b.Attest(1, 16); return err, e == nil }},
		{"Prove of no block with a hash", func(b *daybook.DB) (error, bool) {
			p, err := b.Prove(api.Digest{Hash: api.Hash{1}})
			return err, p == nil
		}},
	}
}

// isOver: each method of a database on a dead disk answers ErrDisk, whatever it is asked, also when the disk is in order again; and the disk is not touched any more.
func isOver(t *testing.T, when string, d *disk.Disk, b *daybook.DB) {
	t.Helper()
	for _, dead := range []bool{true, false} {
		if !dead {
			d.Crash(nil)
		}
		writes, syncs, reads := d.Writes(), d.Syncs(), d.Reads()
		for _, q := range append(questions(), wrongOfChain()...) {
			err, zero := q.ask(b)
			wants(t, "P13: "+q.name+" "+when, err, api.ErrDisk, "")
			if !zero {
				t.Errorf("P1: %s tells something beside ErrDisk", q.name)
			}
		}
		if d.Writes() != writes || d.Syncs() != syncs || d.Reads() != reads {
			t.Errorf("P13: a database that has answered ErrDisk went on, %s", when)
		}
	}
}

// Once one method has answered ErrDisk each of them answers it first of all.
func TestErrDiskStays(t *testing.T) {
	for _, first := range questions() {
		for _, begun := range []bool{false, true} {
			d, b := made(t, 640, short()...)
			if begun {
				fine(t, "P14: Begin", b.Begin(9))
				fine(t, "P15: Delete", b.Delete("t", num(-6)))
			}
			d.Die(0)
			err, zero := first.ask(b)
			if !zero && err != nil {
				t.Errorf("P1: %s of a dead disk tells something beside %v", first.name, err)
			}
			if !errors.Is(err, api.ErrDisk) {
				continue
			}
			isOver(t, "behind ErrDisk of "+first.name, d, b)
			is(t, "P20: behind ErrDisk of "+first.name, opened(t, d), short())
		}
	}
}

// The same, at whatever step of a Commit or a Checkpoint the disk died.
func TestErrDiskStaysBehindEachStep(t *testing.T) {
	ends := map[string]func(b *daybook.DB) error{
		"Commit":     func(b *daybook.DB) error { _, err := try(b, does(1, insert("t", num(66), txt("x")))); return err },
		"Checkpoint": func(b *daybook.DB) error { return b.Checkpoint() },
	}
	for name, end := range ends {
		for step := 1; ; step++ {
			d, b := made(t, 640, short()...)
			d.Die(step)
			if err := end(b); !d.Dead() {
				fine(t, "P17: "+name, err)
				break
			}
			isOver(t, "behind a "+name+" that the disk's death ended", d, b)
		}
	}
}

// On a dead disk a call that is right in all else answers ErrDisk; but what its promise names first comes first.
func TestDeadDisk(t *testing.T) {
	idle := map[string]api.Kind{
		"Begin": api.ErrDisk, "Create": api.ErrOver, "Create of no name": api.ErrOver, "Insert": api.ErrOver, "Insert into no table": api.ErrOver,
		"Update": api.ErrOver, "Update of no row": api.ErrOver, "Delete": api.ErrOver, "Delete of no row": api.ErrOver,
		"Get": api.ErrDisk, "Get of no row": api.ErrNone, "Scan": api.ErrDisk, "Scan of no table": api.ErrTable, "History": api.ErrDisk, "History of no table": api.ErrTable,
		"Transaction 1": api.ErrDisk, "Transaction 4": api.ErrDisk, "Transaction 0": api.ErrArg, "Checkpoint": api.ErrDisk, "Commit": api.ErrOver, "Abort": api.ErrOver,
	}
	begun := map[string]api.Kind{
		"Begin": api.ErrBegun, "Create": api.ErrDisk, "Create of no name": api.ErrName, "Insert": api.ErrDisk, "Insert into no table": api.ErrTable,
		"Update": api.ErrDisk, "Update of no row": api.ErrRow, "Delete": api.ErrDisk, "Delete of no row": api.ErrRow,
		"Get": api.ErrDisk, "Get of no row": api.ErrNone, "Scan": api.ErrDisk, "Scan of no table": api.ErrTable, "History": api.ErrDisk, "History of no table": api.ErrTable,
		"Transaction 1": api.ErrDisk, "Transaction 4": api.ErrDisk, "Transaction 0": api.ErrArg, "Checkpoint": api.ErrBegun, "Commit": api.ErrDisk, "Abort": 0,
	}
	chain := map[string]api.Kind{
		"Digest": api.ErrDisk, "Prove": api.ErrDisk, "Verify": api.ErrDisk, "Attest": api.ErrDisk,
		"Prove of a block": api.ErrDisk, "Verify of a block": api.ErrDisk, "Attest of a last op": api.ErrDisk,
		"Prove of a wrong digest": api.ErrDigest, "Verify of a wrong digest": api.ErrDigest, "Prove of no block with a hash": api.ErrDigest,
		"Attest of no transaction": api.ErrArg, "Attest of no op": api.ErrArg, "Attest of too great an op": api.ErrArg,
	}
	maps.Copy(idle, chain)
	maps.Copy(begun, chain)
	for _, q := range append(questions(), wrongOfChain()...) {
		for i, kinds := range []map[string]api.Kind{idle, begun} {
			d, b := made(t, 640, short()...)
			if i == 1 {
				fine(t, "P14: Begin", b.Begin(9))
				fine(t, "P15: Insert", b.Insert("t", row(num(66), txt("x"))))
			}
			d.Die(0)
			err, _ := q.ask(b)
			if kind, _ := api.Told(err); kind != kinds[q.name] {
				t.Errorf("P13: %s of a dead disk: %v, want %v", q.name, err, kinds[q.name])
			}
		}
	}
}

// A transaction without an op needs no disk to be over.
func TestNothingToCommitOnDeadDisk(t *testing.T) {
	d, b := made(t, 64)
	fine(t, "P14: Begin", b.Begin(1))
	d.Die(0)
	if n, err := b.Commit(); n != 0 || err != nil {
		t.Errorf("P17: Commit of no op on a dead disk = %d, %v", n, err)
	}
	_, err := b.Commit()
	wants(t, "P17: Commit of nothing", err, api.ErrOver, "")
}

// The disk dies at each step of each call: ErrDisk, and nothing else.
func TestDiesAtEachStep(t *testing.T) {
	most := map[string]int{}
	for _, begun := range []bool{false, true} {
		for _, q := range questions() {
			for step := 1; ; step++ {
				d, b := made(t, 640, short()...)
				if begun {
					fine(t, "P14: Begin", b.Begin(9))
					fine(t, "P15: Insert", b.Insert("t", row(num(66), txt("x"))))
				}
				d.Die(step)
				err, _ := q.ask(b)
				if !d.Dead() {
					if errors.Is(err, api.ErrDisk) {
						t.Errorf("P1: %s: ErrDisk, though the disk has not failed", q.name)
					}
					break
				}
				most[q.name] = max(most[q.name], step)
				wants(t, "P13: "+q.name+" when the disk dies", err, api.ErrDisk, "")
			}
		}
	}
	for _, name := range []string{"Commit", "Checkpoint"} {
		if most[name] < 2 {
			t.Errorf("P13: %s: the disk was hardly asked", name)
		}
	}
	for _, name := range []string{"Get", "Scan", "History", "Transaction 1", "Abort", "Digest", "Prove", "Prove of a block", "Attest"} {
		if most[name] > 0 {
			t.Errorf("P16: %s has changed the disk", name)
		}
	}
	if most["Verify of a block"] > 1 { // it makes sure of the log, which is opened anew
		t.Error("P23: Verify has changed the disk")
	}
}
