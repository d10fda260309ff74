// Package tables: what transactions make, in memory: tables, their rows, and the rows that are no more.
package tables

import (
	"cmp"
	"maps"
	"slices"
	"strings"

	"daybook/api"
	"daybook/payload"
)

// Tables are all that there are, by their names.
type Tables map[string]*table

// table is one of them. The values of its rows are never changed, only others laid in their stead: copies share them.
type table struct {
	columns []api.Column
	rows    map[api.Value]row // by their keys
	past    []api.Version     // by the order of the ops that put an end to them
}

// row is one that is there, and the number of the transaction that made it.
type row struct {
	values []api.Value
	from   int
}

// Copy is what may be changed while these stay as they are.
func (t Tables) Copy() Tables {
	other := make(Tables, len(t))
	for name, x := range t {
		other[name] = &table{x.columns, maps.Clone(x.rows), slices.Clip(x.past)}
	}
	return other
}

// Same tells whether these and others are the same in all that can be told of them, now or later.
func (t Tables) Same(other Tables) bool {
	return maps.EqualFunc(t, other, func(x, y *table) bool {
		return slices.Equal(x.columns, y.columns) && maps.EqualFunc(x.rows, y.rows, sameRow) && slices.EqualFunc(x.past, y.past, sameVersion)
	})
}

func sameRow(a, b row) bool { return a.from == b.from && slices.Equal(a.values, b.values) }

func sameVersion(a, b api.Version) bool {
	return a.From == b.From && a.To == b.To && slices.Equal(a.Row, b.Row)
}

// Check tells what is wrong with an op: the first of what P14 and P15 name.
func (t Tables) Check(o payload.Op) error {
	if o.Kind == payload.Create {
		return t.checkCreate(o)
	}
	x, ok := t[o.Table]
	if !ok {
		return fault(o.Table, api.ErrTable)
	}
	if !x.fits(o) {
		return fault(o.Table, api.ErrRow)
	}
	_, there := x.rows[o.Row[0]]
	switch {
	case there && o.Kind == payload.Insert:
		return fault(o.Table, api.ErrTwice)
	case !there && o.Kind != payload.Insert:
		return fault(o.Table, api.ErrNone)
	}
	return nil
}

func (t Tables) checkCreate(o payload.Op) error {
	_, there := t[o.Table]
	switch {
	case !payload.IsName(o.Table):
		return fault(o.Table, api.ErrName)
	case there:
		return fault(o.Table, api.ErrTwice)
	case len(t) >= api.MaxTables:
		return api.ErrMany
	case !payload.AreRight(o.Columns):
		return fault(o.Table, api.ErrColumns)
	}
	return nil
}

// fits tells whether an op's row is right, or its key, if it has no more.
func (x *table) fits(o payload.Op) bool {
	columns := x.columns
	if o.Kind == payload.Delete {
		columns = columns[:1]
	}
	return slices.EqualFunc(o.Row, columns, func(v api.Value, c api.Column) bool {
		return v.Type == c.Type && payload.IsRight(v)
	})
}

// Do does an op with which nothing is wrong, of the transaction with this number.
func (t Tables) Do(o payload.Op, number int) {
	if o.Kind == payload.Create {
		t[o.Table] = &table{columns: slices.Clone(o.Columns), rows: make(map[api.Value]row)}
		return
	}
	x, key := t[o.Table], o.Row[0]
	if old, there := x.rows[key]; there {
		x.past = append(x.past, api.Version{Row: old.values, From: old.from, To: number})
	}
	if o.Kind == payload.Delete {
		delete(x.rows, key)
		return
	}
	x.rows[key] = row{slices.Clone(o.Row), number}
}

// Get tells a row.
func (t Tables) Get(name string, key api.Value) ([]api.Value, error) {
	// What may be deleted may be told: the same is asked of both.
	if err := t.Check(payload.Op{Kind: payload.Delete, Table: name, Row: []api.Value{key}}); err != nil {
		return nil, err
	}
	return slices.Clone(t[name].rows[key].values), nil
}

// Scan tells a table's rows, by rising keys.
func (t Tables) Scan(name string) ([][]api.Value, error) {
	x, ok := t[name]
	if !ok {
		return nil, fault(name, api.ErrTable)
	}
	var all [][]api.Value
	for _, r := range x.rows {
		all = append(all, slices.Clone(r.values))
	}
	slices.SortFunc(all, func(a, b []api.Value) int { return compare(a[0], b[0]) })
	return all, nil
}

// compare tells how two keys of one table stand to each other. They are of one type, and have nothing of the other.
func compare(a, b api.Value) int { return cmp.Or(cmp.Compare(a.N, b.N), strings.Compare(a.S, b.S)) }

// History tells the rows of a table that transactions up to a number have put an end to.
func (t Tables) History(name string, number int) ([]api.Version, error) {
	x, ok := t[name]
	if !ok {
		return nil, fault(name, api.ErrTable)
	}
	var all []api.Version
	for _, v := range x.past {
		if v.To <= number {
			all = append(all, api.Version{Row: slices.Clone(v.Row), From: v.From, To: v.To})
		}
	}
	return all, nil
}

func fault(name string, kind api.Kind) error { return &api.TableError{Table: name, Kind: kind} }
