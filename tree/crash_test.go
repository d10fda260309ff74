package tree_test

import (
	"maps"
	"math/rand"
	"slices"
	"strconv"
	"strings"
	"testing"

	"daybook/api"
	"daybook/disk"
	"daybook/tree"
)

// bench is a disk with a tree in the middle, and what P11 speaks of: what may be there behind a crash.
type bench struct {
	d              *disk.Disk
	first, sectors int
	x              *tree.Tree
	now            pairs   // the tree as it is
	may            []pairs // what a crash may leave of it; none: no Create was answered without an error yet
}

func newBench(sectors int) *bench {
	return &bench{d: disk.New(sectors + 5), first: 3, sectors: sectors}
}

// copy is a bench with a disk of its own.
func (b *bench) copy() *bench {
	c := *b
	c.d = b.d.Copy()
	c.x = nil
	c.now = maps.Clone(b.now)
	c.may = slices.Clone(b.may)
	return &c
}

// fresh is how many sectors are written and not safe: those that a crash can leave as they were written or break.
func (b *bench) fresh() int {
	written, broken, many := b.d.Copy(), b.d.Copy(), 0
	written.Crash(slices.Repeat([]int{1}, b.d.Sectors()))
	broken.Crash(slices.Repeat([]int{2}, b.d.Sectors()))
	for i := range b.d.Sectors() {
		_, there := written.Read(i)
		_, stillThere := broken.Read(i)
		if there && !stillThere {
			many++
		}
	}
	return many
}

// step does what one word says: create, open, save, or, for numbers A and B, +A.B (Put of the key with the number A, of a value of B bytes), -A (Delete of it), and *A.B (Put of all keys below A). It tells whether that was answered without an error.
func (b *bench) step(t *testing.T, word string) bool {
	t.Helper()
	var err error
	switch word[0] {
	case 'c':
		if err = tree.Create(b.d, b.first, b.sectors); err == nil {
			b.now, b.may = pairs{}, []pairs{{}}
		} else if len(b.may) > 0 {
			b.may = append(b.may, pairs{})
		}
	case 'o':
		b.x, err = tree.Open(b.d, b.first, b.sectors)
		if err == nil {
			b.now = maps.Clone(b.may[0])
		}
	case 's':
		if err = b.x.Save(); err == nil {
			b.may = nil
		}
		b.may = append(b.may, maps.Clone(b.now))
	case '-':
		if err = b.x.Delete([]byte("key " + word[1:])); err == nil {
			delete(b.now, "key "+word[1:])
		}
	default:
		err = b.put(word)
	}
	if err != nil && err != api.ErrDisk {
		t.Fatalf("P1: %s: %v, want nil or ErrDisk", word, err)
	}
	return err == nil
}

func (b *bench) put(word string) error {
	key, length, _ := strings.Cut(word[1:], ".")
	n, _ := strconv.Atoi(length)
	keys := []string{key}
	if word[0] == '*' {
		keys = nil
		most, _ := strconv.Atoi(key)
		for i := range most {
			keys = append(keys, strconv.Itoa(i))
		}
	}
	for _, k := range keys {
		v := text(word+" ", n)
		if err := b.x.Put([]byte("key "+k), []byte(v)); err != nil {
			return err
		}
		b.now["key "+k] = v
	}
	return nil
}

// never is a step to which no script comes.
const never = 1 << 30

// run goes through a script on a disk that dies so many steps from now; it tells whether it came to the end.
func (b *bench) run(t *testing.T, script string, die int) (finished bool) {
	t.Helper()
	b.d.Die(die)
	for _, word := range strings.Fields(script) {
		if !b.step(t, word) {
			return false
		}
	}
	return true
}

// crashed are all benches that a crash may leave, by what it does; many is how many at most, taken evenly.
func (b *bench) crashed(many int) map[string]*bench {
	all := map[string]*bench{}
	list := ways(b.fresh())
	for i := 0; i < len(list); i += 1 + len(list)/(many+1) {
		c := b.copy()
		c.d.Crash(list[i])
		all[digits(list[i])] = c
	}
	return all
}

func digits(raw []int) string {
	var b strings.Builder
	for _, c := range raw {
		b.WriteString(strconv.Itoa(c))
	}
	return b.String()
}

// reopen opens the tree behind a crash, and holds it against what may be there; false: there may be none, and is none.
func (b *bench) reopen(t *testing.T, what string) bool {
	t.Helper()
	x, err := tree.Open(b.d, b.first, b.sectors)
	if err != nil {
		if len(b.may) > 0 || err != api.ErrForm {
			t.Fatalf("P11: %s: Open: %v", what, err)
		}
		return false
	}
	got := scanned(t, x)
	if len(b.may) > 0 && !slices.ContainsFunc(b.may, func(p pairs) bool { return maps.Equal(p, got) }) {
		t.Fatalf("P11: %s: the tree has %s", what, short(got.told("", len(got))))
	}
	b.x, b.now, b.may = x, maps.Clone(got), []pairs{got}
	has(t, "P11: "+what, x, got)
	return true
}

// beginnings are what is done ahead of a script, behind "create open".
func beginnings() []string {
	return []string{"", "+1.10 save", "*20.20 save", "*20.20 save *12.50 -3 -5 save", "*25.1 save -1 -2 -3", "*15.60"}
}

// scripts are what is done while the disk dies.
func scripts() []string {
	return []string{
		"save",
		"save save",
		"create",
		"create open save",
		"create create open +9.9 save",
		"+1.100 save",
		"+1.100 +2.0 +3.100 save",
		"+50.7 +51.8 save +50.0 save",
		"*7.30 save *6.31 save -1 -2 save",
		"+1.1 +2.2 -1 -2 save +1.3 save",
		"*22.90 save create open *3.3 save",
	}
}

// dying calls try for each step at which the disk may die, until it tells that all was done ahead of that.
func dying(try func(die int) (finished bool)) {
	for die := 1; !try(die); die++ {
	}
}

// The disk dies at each step of each script, and then there is each crash.
func TestCrashes(t *testing.T) {
	for _, beginning := range beginnings() {
		for _, script := range scripts() {
			dying(func(die int) bool {
				b := newBench(64)
				b.run(t, "create open "+beginning, never)
				finished := b.run(t, script, die)
				for how, c := range b.crashed(40) {
					what := beginning + " | " + script + " that dies at " + strconv.Itoa(die) + " by " + how
					if !c.reopen(t, what) {
						t.Fatalf("P11: %s: there is no tree", what)
					}
				}
				return finished
			})
		}
	}
}

// A crash of the first Create leaves no tree or an empty one, on a new disk and on one whose sectors are broken; then Create is done again.
func TestCrashesOfTheFirstCreate(t *testing.T) {
	for broken := range 2 {
		dying(func(die int) bool {
			b := newBench(30)
			for i := range b.d.Sectors() * broken {
				b.d.Write(i, "x")
			}
			b.d.Crash(slices.Repeat([]int{2}, b.d.Sectors()))
			finished := b.run(t, "create", die)
			for how, c := range b.crashed(100) {
				what := "create that dies at " + strconv.Itoa(die) + " by " + how
				if c.reopen(t, what) {
					has(t, "P11: "+what, c.x, nil)
				}
				c.run(t, "create open *5.5 save", never)
				c.reopen(t, what)
			}
			return finished
		})
	}
}

// What is done behind such an Open is done as ever, and may be met by a crash again.
func TestCrashesBehindCrashes(t *testing.T) {
	again := []string{"save", "+2.70 -4 save", "*9.40 save -1 save", "create open +1.1 save"}
	for _, script := range []string{"*20.20 save *12.50 -3 -5 save", "*9.9 save -1 -2 save create", "*24.9 save *24.12 save"} {
		dying(func(die int) bool {
			b := newBench(40)
			b.run(t, "create open", never)
			finished := b.run(t, script, die)
			for how, c := range b.crashed(3) {
				what := script + " that dies at " + strconv.Itoa(die) + " by " + how
				c.reopen(t, what)
				c.andAgain(t, what, again[die%len(again)])
			}
			return finished
		})
	}
}

// andAgain opens the tree of a bench anew, and lets the disk die at each step of a script.
func (b *bench) andAgain(t *testing.T, what, script string) {
	t.Helper()
	dying(func(die int) bool {
		c := b.copy()
		c.reopen(t, what)
		c.step(t, "+4.4")
		finished := c.run(t, script, die)
		for how, e := range c.crashed(3) {
			e.reopen(t, what+" | "+script+" that dies at "+strconv.Itoa(die)+" by "+how)
		}
		return finished
	})
}

// Long lives with many crashes, by a rule that is the same each time.
func TestManyCrashes(t *testing.T) {
	for seed := range 150 {
		r := rand.New(rand.NewSource(int64(seed)))
		b := newBench(30 + r.Intn(40))
		b.run(t, "create open", never)
		for round := range 25 {
			b.life(t, r)
			raw := make([]int, b.d.Sectors())
			for i := range raw {
				raw[i] = r.Intn(3)
			}
			b.d.Crash(raw)
			if !b.reopen(t, "seed "+strconv.Itoa(seed)+", round "+strconv.Itoa(round)) {
				t.Fatal("P11: there is no tree")
			}
		}
	}
}

// life is some steps on a disk that may die meanwhile.
func (b *bench) life(t *testing.T, r *rand.Rand) {
	t.Helper()
	if r.Intn(5) > 0 {
		b.d.Die(1 + r.Intn(60))
	}
	for range r.Intn(25) {
		word := "+" + strconv.Itoa(r.Intn(20)) + "." + strconv.Itoa(r.Intn(30))
		switch k := "key " + strconv.Itoa(r.Intn(20)); {
		case r.Intn(5) == 0:
			word = "save"
		case r.Intn(60) == 0:
			word = "create"
		case r.Intn(2) == 0 && b.now[k] != "":
			word = "-" + k[4:]
		}
		if !b.step(t, word) {
			return
		}
		if word == "create" {
			b.step(t, "open")
		}
	}
}
