package daybook_test

import (
	"errors"
	"fmt"
	"math/rand"
	"testing"

	"daybook/api"
	"daybook/daybook"
	"daybook/disk"
)

// bench is a disk with a database, and what P20 speaks of.
type bench struct {
	d    *disk.Disk
	b    *daybook.DB
	must ledger // committed without an error since Format
	may  *deal  // its Commit answered ErrDisk
}

// step is one of a script; it answers the error that ended it.
type step func(x *bench) error

func commit(a deal) step {
	return func(x *bench) error {
		if err := x.b.Begin(a.time); err != nil {
			return err
		}
		for _, op := range a.acts {
			if err := op.do(x.b); err != nil {
				return err
			}
		}
		n, err := x.b.Commit()
		if err == nil {
			x.must = x.must.with(a)
			if n != len(x.must) {
				return fmt.Errorf("P17: the number is %d, want %d", n, len(x.must))
			}
		} else if errors.Is(err, api.ErrDisk) {
			x.may = &a
		}
		return err
	}
}

func abort(a deal) step {
	return func(x *bench) error {
		if err := x.b.Begin(a.time); err != nil {
			return err
		}
		for _, op := range a.acts {
			if err := op.do(x.b); err != nil {
				return err
			}
		}
		return x.b.Abort()
	}
}

func checkpoint(x *bench) error { return x.b.Checkpoint() }

func reopen(x *bench) error {
	b, err := daybook.Open(x.d)
	if err == nil {
		x.b = b
	}
	return err
}

// copy is a bench with a disk of its own, with nothing open.
func (x *bench) copy() *bench {
	c := *x
	c.d, c.b = x.d.Copy(), nil
	return &c
}

// settle opens the database behind a crash, and holds it against what P20 allows. What it has now, it must have from here on.
func (x *bench) settle(t *testing.T, what string) {
	t.Helper()
	b, err := daybook.Open(x.d)
	if err != nil {
		t.Fatalf("P20: %s: Open: %v", what, err)
	}
	x.b = b
	if x.may != nil {
		more := x.must.with(*x.may)
		if picture(b, names(more)) == more.picture(names(more)) {
			x.must = more
		}
	}
	x.may = nil
	is(t, "P20: "+what, b, x.must)
	staysRight(t, what, b, x.must)
}

// staysRight: what follows of the chain: the digests of earlier moments are right, and lead to the one of now.
func staysRight(t *testing.T, what string, b *daybook.DB, l ledger) {
	t.Helper()
	all := l.digests()
	last, err := b.Digest()
	if err != nil || last != all[len(all)-1] {
		t.Fatalf("P21: %s: Digest = %v, %v, want %v", what, last, err, all[len(all)-1])
	}
	fine(t, "P23: "+what+": Verify", b.Verify(last))
	for i := 0; i < len(all); i += 1 + len(all)/3 {
		p, err := b.Prove(all[i])
		fine(t, "P22: "+what+": Prove", err)
		fine(t, "P22: "+what+": Extends", daybook.Extends(all[i], last, p))
	}
}

// run goes through a script on a disk that dies at a step, and shows what each crash leaves.
func run(t *testing.T, name string, sectors int, script []step, die int, behind func(what string, x *bench)) (finished bool) {
	t.Helper()
	d := formatted(t, sectors)
	x := &bench{d: d, b: opened(t, d)}
	d.Die(die)
	finished = true
	for i, s := range script {
		if err := s(x); err != nil {
			if !errors.Is(err, api.ErrDisk) || !d.Dead() {
				t.Fatalf("P20: %s that dies at %d: step %d: %v", name, die, i, err)
			}
			finished = false
			break
		}
	}
	for i, raw := range ways(unsafe(d)) {
		c := x.copy()
		c.d.Crash(raw)
		behind(fmt.Sprintf("%s that dies at %d, crash %d", name, die, i), c)
	}
	return finished
}

// scripts are all that can be under way when the disk dies, one thing behind the other.
func scripts() map[string][]step {
	var plain, alone, great, mixed []step
	for i, x := range short() {
		plain = append(plain, commit(x))
		if i%2 == 1 {
			plain = append(plain, checkpoint, checkpoint)
		}
	}
	for _, x := range long()[:36] {
		alone = append(alone, commit(x))
	}
	great = append(great, commit(does(1, greatest(0))))
	for i := range 4 {
		x := deal{time: i}
		for n := range api.MaxOps {
			x.acts = append(x.acts, greatest(1+i*api.MaxOps+n))
		}
		great = append(great, commit(x))
	}
	for i, x := range long()[:24] {
		mixed = append(mixed, commit(x))
		switch i % 4 {
		case 1:
			mixed = append(mixed, abort(does(0, insert("t", num(-1000), txt("gone")))))
		case 2:
			mixed = append(mixed, reopen)
		case 3:
			mixed = append(mixed, checkpoint)
		}
	}
	return map[string][]step{"plain": plain, "checkpoints by itself": alone, "the greatest": great, "mixed": mixed}
}

// everyScript runs each script with the disk dying at each step, and never.
func everyScript(t *testing.T, behind func(what string, x *bench)) {
	t.Helper()
	for name, script := range scripts() {
		t.Run(name, func(t *testing.T) {
			for die := 1; ; die++ {
				if run(t, name, 1000, script, die, behind) {
					break
				}
			}
		})
	}
}

func TestCrashAtEachStep(t *testing.T) {
	everyScript(t, func(what string, x *bench) { x.settle(t, what) })
}

// What is done behind a crash is done like anything else; and what was lost does not come back.
func TestGoingOnBehindCrash(t *testing.T) {
	for _, name := range []string{"plain", "mixed"} {
		script := scripts()[name]
		for die := 1; ; die++ {
			if run(t, name, 1000, script, die, func(what string, x *bench) { goesOn(t, what, x) }) {
				break
			}
		}
	}
}

func goesOn(t *testing.T, what string, x *bench) {
	t.Helper()
	x.settle(t, what)
	more := []step{commit(does(50, create("more", kv()...))), commit(does(51, insert("more", num(1), txt("a")))), checkpoint, commit(does(52, update("more", num(1), txt("b")))), reopen}
	for _, s := range more {
		fine(t, "P20: behind "+what, s(x))
	}
	is(t, "P20: behind "+what, x.b, x.must)
	x.d.Crash(nil)
	x.settle(t, what+", and another one")
}

// The disk dies again, at each step of what is done first behind a crash.
func TestCrashBehindCrash(t *testing.T) {
	for _, name := range []string{"plain", "mixed"} {
		script := scripts()[name]
		script = script[:min(8, len(script))]
		for die := 1; ; die++ {
			if run(t, name, 400, script, die, func(what string, x *bench) { diesAgain(t, what, x) }) {
				break
			}
		}
	}
}

func diesAgain(t *testing.T, what string, x *bench) {
	t.Helper()
	x.settle(t, what)
	for _, s := range []step{commit(does(50, create("more", kv()...))), checkpoint} {
		for die := 1; ; die++ {
			y := x.copy()
			y.b = opened(t, y.d)
			y.d.Die(die)
			if s(y) == nil {
				break
			}
			for _, raw := range ways(min(3, unsafe(y.d))) {
				z := y.copy()
				z.d.Crash(raw)
				z.settle(t, what+", and again")
			}
		}
	}
}

// The disk dies while a database is opened behind a crash.
func TestCrashInOpen(t *testing.T) {
	script := scripts()["plain"]
	for die := 1; ; die++ {
		if run(t, "plain", 1000, script, die, func(what string, x *bench) { diesInOpen(t, what, x) }) {
			break
		}
	}
}

func diesInOpen(t *testing.T, what string, x *bench) {
	t.Helper()
	for die := 0; ; die++ {
		y := x.copy()
		y.d.Die(die)
		b, err := daybook.Open(y.d)
		if err == nil {
			return
		}
		if !errors.Is(err, api.ErrDisk) || b != nil {
			t.Fatalf("P13: %s: Open of a disk that dies: %v", what, err)
		}
		for _, raw := range ways(unsafe(y.d)) {
			z := y.copy()
			z.d.Crash(raw)
			z.settle(t, what+", then in Open")
		}
	}
}

// Many crashes, one behind the other, with all that can be done between.
func TestManyCrashes(t *testing.T) {
	for seed := range int64(25) {
		r := rand.New(rand.NewSource(seed))
		d := formatted(t, 1500+r.Intn(1500))
		x := &bench{d: d, b: opened(t, d)}
		for round := range 40 {
			if r.Intn(3) > 0 {
				d.Die(1 + r.Intn(25))
			}
			wander(t, r, x)
			raw := make([]int, 200)
			for i := range raw {
				raw[i] = r.Intn(3)
			}
			d.Crash(raw)
			for r.Intn(2) == 0 {
				d.Die(1 + r.Intn(3))
				b, err := daybook.Open(d)
				if err != nil && !errors.Is(err, api.ErrDisk) {
					t.Fatalf("P20: seed %d, round %d: Open: %v", seed, round, err)
				}
				if err == nil && r.Intn(2) == 0 {
					b.Checkpoint()
				}
				d.Crash(raw[r.Intn(100):])
			}
			x.settle(t, fmt.Sprintf("seed %d, round %d", seed, round))
		}
	}
}

// wander does some things, as long as the disk lives and there is room.
func wander(t *testing.T, r *rand.Rand, x *bench) {
	t.Helper()
	for range 1 + r.Intn(7) {
		s := commit(anyDeal(r, x.must))
		switch r.Intn(8) {
		case 0:
			s = checkpoint
		case 1:
			s = abort(anyDeal(r, x.must))
		case 2:
			s = reopen
		}
		if err := s(x); errors.Is(err, api.ErrDisk) {
			return
		} else if err != nil && !errors.Is(err, api.ErrFull) {
			t.Fatalf("P20: %v", err)
		}
	}
}

// anyDeal is a transaction that can be behind these.
func anyDeal(r *rand.Rand, l ledger) deal {
	x := deal{time: r.Int() - r.Int()}
	for range 1 + r.Intn(5) {
		x.acts = append(x.acts, anyAct(r, l.with(x)))
	}
	return x
}

func anyAct(r *rand.Rand, l ledger) act {
	name := string(rune('a' + r.Intn(4)))
	m := l.find(name)
	if m == nil {
		return create(name, kv()...)
	}
	if len(m.rows) > 0 && r.Intn(3) > 0 {
		old := m.rows[r.Intn(len(m.rows))].values
		if r.Intn(2) == 0 {
			return remove(name, old[0])
		}
		return update(name, old[0], txt(fmt.Sprint(r.Intn(1000000))))
	}
	key := num(r.Int() - r.Int())
	return insert(name, key, txt(fmt.Sprint(r.Intn(1000000))))
}
