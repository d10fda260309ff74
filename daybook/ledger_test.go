package daybook_test

import (
	"cmp"
	"encoding/binary"
	"errors"
	"fmt"
	"hash/crc32"
	"slices"
	"strings"

	"daybook/api"
	"daybook/daybook"
)

// What a database must tell is worked out here in the plainest way: all transactions are gone through from the first on.

// act is an op: one of create, insert, update, delete; a delete has the key alone in its row.
type act struct {
	what, table string
	columns     []api.Column
	row         []api.Value
}

func create(table string, columns ...api.Column) act { return act{"create", table, columns, nil} }

func insert(table string, row ...api.Value) act { return act{"insert", table, nil, row} }

func update(table string, row ...api.Value) act { return act{"update", table, nil, row} }

func remove(table string, key api.Value) act { return act{"delete", table, nil, row(key)} }

func (a act) do(b *daybook.DB) error {
	switch a.what {
	case "create":
		return b.Create(a.table, a.columns)
	case "insert":
		return b.Insert(a.table, a.row)
	case "update":
		return b.Update(a.table, a.row)
	}
	return b.Delete(a.table, a.row[0])
}

// deal is a transaction.
type deal struct {
	time int
	acts []act
}

func does(time int, acts ...act) deal { return deal{time, acts} }

// ledger is the transactions that are committed.
type ledger []deal

func (l ledger) with(x ...deal) ledger { return append(slices.Clone(l), x...) }

func (l ledger) ops() int {
	sum := 0
	for _, x := range l {
		sum += len(x.acts)
	}
	return sum
}

// names are those of all tables that a ledger speaks of, and some that it does not.
func names(l ledger) []string {
	list := []string{"", "nosuch", "t", "T"}
	for _, x := range l {
		for _, a := range x.acts {
			list = append(list, a.table)
		}
	}
	slices.Sort(list)
	return slices.Compact(list)
}

type madeRow struct {
	values []api.Value
	from   int
}

type madeTable struct {
	columns []api.Column
	rows    []madeRow
	past    []api.Version
}

// find is a table of a ledger, worked out; nil: there is none.
func (l ledger) find(name string) *madeTable {
	var m *madeTable
	for i, x := range l {
		for _, a := range x.acts {
			if a.table != name {
				continue
			}
			if a.what == "create" {
				m = &madeTable{columns: a.columns}
				continue
			}
			m.apply(a, i+1)
		}
	}
	if m != nil {
		slices.SortFunc(m.rows, func(x, y madeRow) int {
			a, b := x.values[0], y.values[0]
			if a.Type == api.Int {
				return cmp.Compare(a.N, b.N)
			}
			return strings.Compare(a.S, b.S)
		})
	}
	return m
}

func (m *madeTable) apply(a act, number int) {
	for i, r := range m.rows {
		if r.values[0] == a.row[0] {
			m.past = append(m.past, api.Version{Row: r.values, From: r.from, To: number})
			m.rows = slices.Delete(m.rows, i, i+1)
			break
		}
	}
	if a.what != "delete" {
		m.rows = append(m.rows, madeRow{a.row, number})
	}
}

// payload is what P18 says of a transaction.
func (x deal) payload() []byte {
	b := binary.BigEndian.AppendUint64(nil, uint64(x.time))
	b = append(b, byte(len(x.acts)))
	for _, a := range x.acts {
		b = append(b, a.text()...)
	}
	return binary.BigEndian.AppendUint32(b, crc32.ChecksumIEEE(b))
}

func (a act) text() []byte {
	b := []byte{byte(1 + slices.Index([]string{"create", "insert", "update", "delete"}, a.what))}
	b = append(append(b, byte(len(a.table))), a.table...)
	switch a.what {
	case "create":
		b = append(b, byte(len(a.columns)))
		for _, c := range a.columns {
			b = append(append(append(b, byte(len(c.Name))), c.Name...), byte(c.Type))
		}
	case "insert", "update":
		b = append(b, byte(len(a.row)))
	}
	for _, v := range a.row {
		b = append(b, byte(v.Type))
		if v.Type == api.Int {
			b = binary.BigEndian.AppendUint64(b, uint64(v.N))
		} else {
			b = append(append(b, byte(len(v.S))), v.S...)
		}
	}
	return b
}

// tableWords tells of one table; what is not there is told as the error.
func tableWords(name string, rows [][]api.Value, past []api.Version) string {
	var w strings.Builder
	fmt.Fprintf(&w, "table %q:", name)
	for _, r := range rows {
		fmt.Fprintf(&w, " %v", r)
	}
	fmt.Fprintf(&w, "\npast of %q:", name)
	for _, v := range past {
		fmt.Fprintf(&w, " %v from %d to %d", v.Row, v.From, v.To)
	}
	return w.String() + "\n"
}

func errorWords(err error) string {
	kind, table := api.Told(err)
	return fmt.Sprintf("error %d of %q\n", kind, table)
}

// picture is all that a ledger makes.
func (l ledger) picture(names []string) string {
	var w strings.Builder
	for _, name := range names {
		m := l.find(name)
		if m == nil {
			w.WriteString(errorWords(&api.TableError{Table: name, Kind: api.ErrTable}))
			continue
		}
		var rows [][]api.Value
		for _, r := range m.rows {
			rows = append(rows, r.values)
		}
		w.WriteString(tableWords(name, rows, m.past))
	}
	for i, x := range l {
		fmt.Fprintf(&w, "%d: %x\n", i+1, x.payload())
	}
	return w.String()
}

// picture is all that a database tells: by Scan (and Get of the same rows), by History, by Transaction.
func picture(b *daybook.DB, names []string) string {
	var w strings.Builder
	for _, name := range names {
		w.WriteString(tablePicture(b, name))
	}
	for number := 1; ; number++ {
		p, err := b.Transaction(number)
		if errors.Is(err, api.ErrArg) {
			return w.String()
		}
		if err != nil {
			return w.String() + errorWords(err)
		}
		fmt.Fprintf(&w, "%d: %x\n", number, p)
	}
}

func tablePicture(b *daybook.DB, name string) string {
	rows, err := b.Scan(name)
	past, wrong := b.History(name)
	if fmt.Sprint(err) != fmt.Sprint(wrong) {
		return fmt.Sprintf("Scan of %q: %v, but History: %v\n", name, err, wrong)
	}
	if err != nil {
		return errorWords(err)
	}
	for _, r := range rows {
		if got, err := b.Get(name, r[0]); err != nil || !slices.Equal(got, r) {
			return fmt.Sprintf("Get of %v in %q: %v, %v\n", r[0], name, got, err)
		}
	}
	return tableWords(name, rows, past)
}
