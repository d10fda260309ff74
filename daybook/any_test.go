package daybook_test

import (
	"bytes"
	"errors"
	"fmt"
	"math"
	"math/rand"
	"slices"
	"strings"
	"testing"

	"daybook/api"
	"daybook/daybook"
	"daybook/disk"
)

// walk is a database that is asked anything, right or wrong, and what must be answered.
type walk struct {
	t       *testing.T
	r       *rand.Rand
	d       *disk.Disk
	b       *daybook.DB
	kept    ledger
	open    *deal
	what    string
	sectors int
}

// seen is what is committed, and what the open transaction did.
func (w *walk) seen() ledger {
	if w.open == nil {
		return w.kept
	}
	return w.kept.with(*w.open)
}

func (w *walk) pick(list ...string) string { return list[w.r.Intn(len(list))] }

func (w *walk) name() string {
	return w.pick("a", "a", "a", "b", "b", "b", "c", "dddddddd", "e", w.pick("", "A", "ninechars"))
}

func (w *walk) value() api.Value {
	v := api.Value{Type: api.Type(1 + w.r.Intn(2))}
	switch w.r.Intn(60) {
	case 0:
		v.Type = api.Type(w.r.Intn(5) - 1)
	case 1:
		v.N = 1
	case 2:
		v.S = "s"
	case 3:
		v.S = strings.Repeat("x", 15+w.r.Intn(3))
	}
	if v.Type == api.Int && w.r.Intn(4) > 0 {
		v.N = []int{0, 1, -1, 2, math.MaxInt, math.MinInt, w.r.Intn(30)}[w.r.Intn(7)]
	} else if v.Type == api.Text && w.r.Intn(4) > 0 {
		v.S = w.pick("", "a", "ab", "\x00", "\xff", "b", fmt.Sprint(w.r.Intn(30)))
	}
	return v
}

// row is one that is often right for the tables that this test makes.
func (w *walk) row(table string) []api.Value {
	var r []api.Value
	if m := w.seen().find(table); m != nil && w.r.Intn(12) > 0 {
		for _, c := range m.columns {
			v := w.value()
			for v.Type != c.Type && w.r.Intn(40) > 0 {
				v = w.value()
			}
			r = append(r, v)
		}
		return r
	}
	for range w.r.Intn(6) {
		r = append(r, w.value())
	}
	return r
}

func (w *walk) columns() []api.Column {
	var l []api.Column
	many := 1 + w.r.Intn(4)
	if w.r.Intn(8) == 0 {
		many = 5 * w.r.Intn(2)
	}
	for i := range many {
		c := api.Column{Name: string(rune('a' + i)), Type: api.Type(1 + w.r.Intn(2))}
		switch w.r.Intn(40) {
		case 0:
			c.Name = w.pick("", "A", "a", "ninechars")
		case 1:
			c.Type = api.Type(w.r.Intn(5) - 1)
		}
		l = append(l, c)
	}
	return l
}

// expected is the error that an op must be answered with.
func (w *walk) expected(a act) error {
	of := func(kind api.Kind) error { return &api.TableError{Table: a.table, Kind: kind} }
	if w.open == nil {
		return api.ErrOver
	}
	if len(w.open.acts) == 16 {
		return api.ErrMany
	}
	m := w.seen().find(a.table)
	if a.what == "create" {
		return w.expectedCreate(a, m, of)
	}
	if m == nil {
		return of(api.ErrTable)
	}
	wanted := m.columns
	if a.what == "delete" {
		wanted = wanted[:1]
	}
	if !slices.EqualFunc(a.row, wanted, fitting) {
		return of(api.ErrRow)
	}
	there := slices.ContainsFunc(m.rows, func(r madeRow) bool { return r.values[0] == a.row[0] })
	if there && a.what == "insert" {
		return of(api.ErrTwice)
	}
	if !there && a.what != "insert" {
		return of(api.ErrNone)
	}
	return nil
}

func fitting(v api.Value, c api.Column) bool {
	if c.Type == api.Int {
		return v.Type == api.Int && v.S == ""
	}
	return v.Type == api.Text && v.N == 0 && len(v.S) <= 16
}

func named(s string) bool {
	return len(s) >= 1 && len(s) <= 8 && strings.Trim(s, "abcdefghijklmnopqrstuvwxyz") == ""
}

func (w *walk) expectedCreate(a act, m *madeTable, of func(api.Kind) error) error {
	tables := 0
	for _, x := range w.seen() {
		for _, b := range x.acts {
			if b.what == "create" {
				tables++
			}
		}
	}
	switch {
	case !named(a.table):
		return of(api.ErrName)
	case m != nil:
		return of(api.ErrTwice)
	case tables == 4:
		return api.ErrMany
	case len(a.columns) < 1 || len(a.columns) > 4:
		return of(api.ErrColumns)
	}
	for i, c := range a.columns {
		if !named(c.Name) || c.Type != 1 && c.Type != 2 || slices.ContainsFunc(a.columns[:i], func(b api.Column) bool { return b.Name == c.Name }) {
			return of(api.ErrColumns)
		}
	}
	return nil
}

// same fails the test if an answer is not the one that must be.
func (w *walk) same(call string, got, want error) {
	w.t.Helper()
	if fmt.Sprint(got) != fmt.Sprint(want) {
		w.t.Fatalf("P14 to P19: %s: %s: %v, want %v", w.what, call, got, want)
	}
}

// full tells whether an answer is ErrFull, and may be.
func (w *walk) full(err error, more int) bool {
	if !errors.Is(err, api.ErrFull) {
		return false
	}
	if ops := w.seen().ops() + more; 60*ops+120 <= w.sectors {
		w.t.Fatalf("P17: %s: ErrFull at %d ops on %d sectors", w.what, ops, w.sectors)
	}
	w.open = nil
	return true
}

func (w *walk) op() {
	w.t.Helper()
	a := act{what: w.pick("create", "insert", "insert", "insert", "update", "update", "delete"), table: w.name()}
	switch a.what {
	case "create":
		a.columns = w.columns()
	case "delete":
		a.row = row(w.value())
	default:
		a.row = w.row(a.table)
	}
	want := w.expected(a)
	got := a.do(w.b)
	if want == nil && w.full(got, 1) {
		return
	}
	w.same(a.what, got, want)
	if want == nil {
		w.open.acts = append(slices.Clone(w.open.acts), a)
	}
}

func (w *walk) get() {
	w.t.Helper()
	name, key := w.name(), w.value()
	var want error
	m := w.seen().find(name)
	at := -1
	switch {
	case m == nil:
		want = &api.TableError{Table: name, Kind: api.ErrTable}
	case !fitting(key, m.columns[0]):
		want = &api.TableError{Table: name, Kind: api.ErrRow}
	default:
		at = slices.IndexFunc(m.rows, func(r madeRow) bool { return r.values[0] == key })
		if at < 0 {
			want = &api.TableError{Table: name, Kind: api.ErrNone}
		}
	}
	got, err := w.b.Get(name, key)
	w.same("Get", err, want)
	if at >= 0 && !slices.Equal(got, m.rows[at].values) || at < 0 && got != nil {
		w.t.Fatalf("P16: %s: Get = %v", w.what, got)
	}
}

// chain asks one of the methods of the chain, right or wrong.
func (w *walk) chain() {
	w.t.Helper()
	g := w.kept.digests()[w.r.Intn(w.kept.closed()+1)]
	var want error
	if w.r.Intn(3) == 0 {
		g.Hash[w.r.Intn(4)] ^= 1 << w.r.Intn(8)
		want = api.ErrDigest
	} else if w.r.Intn(4) == 0 {
		g.Blocks = []int{-1, w.kept.closed() + 1, math.MaxInt, math.MinInt}[w.r.Intn(4)]
		want = api.ErrDigest
	}
	switch w.r.Intn(4) {
	case 0:
		digestIs(w.t, w.what, w.b, w.kept)
	case 1:
		w.same("Verify", w.b.Verify(g), want)
	case 2:
		p, err := w.b.Prove(g)
		w.same("Prove", err, want)
		if want == nil && !bytes.Equal(p, w.kept.proof(g.Blocks)) || want != nil && p != nil {
			w.t.Fatalf("P22: %s: Prove(%v) = %v", w.what, g, p)
		}
	default:
		w.attest()
	}
}

func (w *walk) attest() {
	w.t.Helper()
	n, op := w.r.Intn(len(w.kept)+3)-1, w.r.Intn(18)-1
	if w.r.Intn(3) > 0 && n >= 1 && n <= len(w.kept) {
		op %= len(w.kept[n-1].acts)
	}
	e, err := w.b.Attest(n, op)
	if n < 1 || n > 3*w.kept.closed() || op < 0 || op >= len(w.kept[n-1].acts) {
		w.same("Attest", err, api.ErrArg)
		return
	}
	w.same("Attest", err, nil)
	got, err := daybook.Attested(e, w.kept.digest())
	if !bytes.Equal(e, w.kept.evidence(n, op)) || err != nil || !bytes.Equal(got, w.kept[n-1].acts[op].text()) {
		w.t.Fatalf("P24: %s: Attest(%d, %d) = %v, Attested: %q, %v", w.what, n, op, e, got, err)
	}
}

func (w *walk) commit() {
	w.t.Helper()
	n, err := w.b.Commit()
	switch {
	case w.open == nil:
		w.same("Commit", err, api.ErrOver)
	case len(w.open.acts) == 0:
		w.same("Commit", err, nil)
		w.open = nil
	case w.full(err, 0):
	default:
		w.same("Commit", err, nil)
		w.kept = w.kept.with(*w.open)
		w.open = nil
		if n != len(w.kept) {
			w.t.Fatalf("P17: %s: the number is %d, want %d", w.what, n, len(w.kept))
		}
		return
	}
	if n != 0 {
		w.t.Fatalf("P17: %s: Commit tells %d", w.what, n)
	}
}

func (w *walk) step() {
	w.t.Helper()
	var over, begun error
	if w.open == nil {
		over = api.ErrOver
	} else {
		begun = api.ErrBegun
	}
	switch k := w.r.Intn(64); {
	case k < 38:
		w.op()
	case k < 40:
		w.get()
	case k < 48:
		time := w.r.Int() - w.r.Int()
		w.same("Begin", w.b.Begin(time), begun)
		if begun == nil {
			w.open = &deal{time: time}
		}
	case k < 53:
		w.commit()
	case k == 53:
		w.same("Abort", w.b.Abort(), over)
		w.open = nil
	case k == 54:
		w.same("Checkpoint", w.b.Checkpoint(), begun)
	case k == 55:
		if w.r.Intn(2) == 0 {
			w.d.Crash([]int{w.r.Intn(3), w.r.Intn(3), w.r.Intn(3)})
		}
		w.b, w.open = opened(w.t, w.d), nil
	case k < 60:
		w.chain()
	default:
		name := w.name()
		if got, want := tablePicture(w.b, name), w.shown(name); got != want {
			w.t.Fatalf("P16, P18: %s: %s, want %s", w.what, got, want)
		}
	}
}

// shown is what Scan and History must tell of a table.
func (w *walk) shown(name string) string {
	m := w.seen().find(name)
	if m == nil {
		return errorWords(&api.TableError{Table: name, Kind: api.ErrTable})
	}
	var rows [][]api.Value
	for _, r := range m.rows {
		rows = append(rows, r.values)
	}
	var past []api.Version
	for _, v := range m.past {
		if v.To <= len(w.kept) {
			past = append(past, v)
		}
	}
	return tableWords(name, rows, past)
}

// Anything is asked, in any order.
func TestAnything(t *testing.T) {
	for seed := range int64(60) {
		r := rand.New(rand.NewSource(seed))
		sectors := []int{64, 100, 200, 500, 1500, 3000}[r.Intn(6)]
		d := formatted(t, sectors)
		w := &walk{t: t, r: r, d: d, b: opened(t, d), sectors: sectors}
		for i := range 1500 {
			w.what = fmt.Sprintf("seed %d, step %d", seed, i)
			w.step()
		}
		is(t, w.what, opened(t, d), w.kept)
	}
}
