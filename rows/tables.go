package rows

import (
	"slices"

	"folkmoot/api"
	"folkmoot/nums"
)

// Marks of a column; its byte is their sum.
const (
	primary byte = 1 << iota
	unique
	notNull
	beyond // the sum of all of them is less
)

// nameFits: may a name be so long?
func nameFits(name string) bool { return len(name) <= api.MaxName }

// columnFits: may a column be so?
func columnFits(c api.Column) bool {
	return nameFits(c.Name) && (c.Type == api.VkInt || c.Type == api.VkText)
}

// indexFits: may an index be so, of so many columns?
func indexFits(x api.Index, columns int) bool {
	return nameFits(x.Name) && x.Column >= 0 && x.Column < columns
}

// checkTable: may a table be so?
func checkTable(t api.Table) api.Errno {
	wrong := func(x api.Index) bool { return !indexFits(x, len(t.Columns)) }
	switch {
	case len(t.Columns) > api.MaxColumns || len(t.Indexes) > api.MaxColumns:
		return api.ErrLimit
	case !nameFits(t.Name):
		return api.ErrArg
	case slices.ContainsFunc(t.Columns, func(c api.Column) bool { return !columnFits(c) }):
		return api.ErrArg
	case slices.ContainsFunc(t.Indexes, wrong):
		return api.ErrArg
	}
	return api.OK
}

// marks: those of a column.
func marks(c api.Column) byte {
	var m byte
	if c.Primary {
		m += primary
	}
	if c.Unique {
		m += unique
	}
	if c.NotNull {
		m += notNull
	}
	return m
}

// column reads one.
func (r *reader) column() api.Column {
	c := api.Column{Name: r.text(), Type: api.ValueKind(r.next())}
	m := r.next()
	c.Primary, c.Unique, c.NotNull = m&primary > 0, m&unique > 0, m&notNull > 0
	r.need(columnFits(c) && m < beyond)
	return c
}

// table reads one.
func (r *reader) table() api.Table {
	t := api.Table{Name: r.text()}
	r.need(nameFits(t.Name))
	t.Columns = takeList(r, api.MaxColumns, r.column)
	t.Indexes = takeList(r, api.MaxColumns, func() api.Index {
		x := api.Index{Name: r.text(), Column: r.below(len(t.Columns))}
		r.need(nameFits(x.Name))
		return x
	})
	return t
}

// PutTable: what a table looks like, as bytes. (P5.3)
func PutTable(t api.Table) ([]byte, api.Errno) {
	if e := checkTable(t); e != api.OK {
		return nil, e
	}
	w := &writer{}
	w.text(t.Name)
	putList(w, t.Columns, func(c api.Column) {
		w.text(c.Name)
		w.add(byte(c.Type), marks(c))
	})
	putList(w, t.Indexes, func(x api.Index) {
		w.text(x.Name)
		put(w, nums.Put, uint64(x.Column))
	})
	return w.b, api.OK
}

// GetTable: back. (P5.3)
func GetTable(b []byte) (api.Table, api.Errno) { return takeAll(b, (*reader).table) }
