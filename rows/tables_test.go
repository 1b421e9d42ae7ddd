package rows_test

import (
	"bytes"
	"encoding/binary"
	"math"
	"slices"
	"testing"

	"folkmoot/api"
	"folkmoot/rows"
)

// sameTable: are these the same? None and nil mean the same.
func sameTable(a, b api.Table) bool {
	return a.Name == b.Name && slices.Equal(a.Columns, b.Columns) && slices.Equal(a.Indexes, b.Indexes)
}

// plainTable: the bytes of a table, whether it may be or not.
func plainTable(t api.Table) []byte {
	b := binary.AppendUvarint(plainText(nil, t.Name), uint64(len(t.Columns)))
	for _, c := range t.Columns {
		m := byte(0)
		for i, is := range []bool{c.Primary, c.Unique, c.NotNull} {
			if is {
				m += []byte{1, 2, 4}[i]
			}
		}
		b = append(plainText(b, c.Name), byte(c.Type), m)
	}
	b = binary.AppendUvarint(b, uint64(len(t.Indexes)))
	for _, x := range t.Indexes {
		b = binary.AppendUvarint(plainText(b, x.Name), uint64(x.Column))
	}
	return b
}

// columns: so many.
func columns(size int) []api.Column {
	return slices.Repeat([]api.Column{{Name: "c", Type: api.VkInt}}, size)
}

// withColumns: a table that has them.
func withColumns(l ...api.Column) api.Table { return api.Table{Name: "t", Columns: l} }

// withIndexes: a table that has them, on so many columns.
func withIndexes(size int, l ...api.Index) api.Table {
	return api.Table{Name: "t", Columns: columns(size), Indexes: l}
}

// example: the table of the chapter.
func example() api.Table {
	return api.Table{
		Name:    "t",
		Columns: []api.Column{{Name: "id", Type: api.VkInt, Primary: true}, {Name: "b", Type: api.VkText, Unique: true, NotNull: true}},
		Indexes: []api.Index{{Name: "i", Column: 1}},
	}
}

// someTables: those that may be.
func someTables() []api.Table {
	l := []api.Table{
		{},
		{Name: long(16)},
		{Name: "\x00\xff '"},
		example(),
		withColumns(columns(16)...),
		withColumns(api.Column{Type: api.VkText}, api.Column{Type: api.VkText}),
		withIndexes(1, slices.Repeat([]api.Index{{}}, 16)...),
		{Name: long(16), Columns: slices.Repeat([]api.Column{{Name: long(16), Type: api.VkText}}, 16), Indexes: slices.Repeat([]api.Index{{Name: long(16), Column: 15}}, 16)},
	}
	for m := range 8 {
		for _, kind := range []api.ValueKind{api.VkInt, api.VkText} {
			l = append(l, withColumns(api.Column{Name: "c", Type: kind, Primary: m&1 > 0, Unique: m&2 > 0, NotNull: m&4 > 0}))
		}
	}
	for size := range 16 {
		for at := range size {
			l = append(l, withIndexes(size, api.Index{Name: "i", Column: at}, api.Index{Column: size - 1 - at}))
		}
	}
	return l
}

func TestTableExample(t *testing.T) { // P5.3
	want := []byte{1, 't', 2, 2, 'i', 'd', 1, 1, 1, 'b', 2, 6, 1, 1, 'i', 1}
	if b, e := rows.PutTable(example()); !bytes.Equal(b, want) || e != api.OK {
		t.Errorf("%v %d, not %v", b, e, want)
	}
	if x, e := rows.GetTable(want); !sameTable(x, example()) || e != api.OK {
		t.Errorf("%v %d", x, e)
	}
}

func TestPutThenGetTable(t *testing.T) { // P5.3, P5.5
	for _, x := range someTables() {
		b, e := rows.PutTable(x)
		if !bytes.Equal(b, plainTable(x)) || e != api.OK {
			t.Errorf("PutTable(%s): %.40v %d", told(x), b, e)
		}
		if got, e := rows.GetTable(b); !sameTable(got, x) || e != api.OK {
			t.Errorf("GetTable(%.40v): %s %d, not %s", b, told(got), e, told(x))
		}
	}
}

// wrongTables: each with the error that PutTable answers.
func wrongTables() map[api.Errno][]api.Table {
	index := func(name string, at int) api.Index { return api.Index{Name: name, Column: at} }
	return map[api.Errno][]api.Table{
		api.ErrArg: {
			{Name: long(17)},
			{Name: "öööööööö1"}, // nine letters, but 17 bytes
			{Name: long(100000)},
			withColumns(api.Column{Name: long(17), Type: api.VkInt}),
			withColumns(api.Column{Name: "c"}),
			withColumns(api.Column{Name: "c", Type: 3}),
			withColumns(api.Column{Name: "c", Type: 255}),
			withColumns(append(columns(15), api.Column{})...),
			withColumns(append(columns(15), api.Column{Name: long(17), Type: api.VkInt})...),
			withIndexes(0, index("i", 0)),
			withIndexes(1, index("i", 1)),
			withIndexes(16, index("i", 16)),
			withIndexes(2, index(long(17), 1)),
			withIndexes(2, append(make([]api.Index, 15), index("i", 2))...),
			withIndexes(2, index("i", math.MaxInt)),
			withIndexes(2, index("i", 1<<32)), // 0, if it were cut to 32 bits
		},
		api.ErrLimit: {
			withColumns(columns(17)...),
			withColumns(columns(1000)...),
			withColumns(make([]api.Column, 17)...),
			withIndexes(1, make([]api.Index, 17)...),
			withIndexes(0, make([]api.Index, 17)...),
			withIndexes(17, make([]api.Index, 17)...),
			{Name: long(17), Columns: columns(17)},
			{Name: long(17), Columns: make([]api.Column, 1), Indexes: make([]api.Index, 17)},
		},
	}
}

func TestPutTableRefuses(t *testing.T) { // P5.3
	wrong := wrongTables()
	for _, at := range []int{-1, -2, math.MinInt} { // these have no bytes
		wrong[api.ErrArg] = append(wrong[api.ErrArg], withIndexes(2, api.Index{Name: "i", Column: at}))
	}
	for want, l := range wrong {
		for _, x := range l {
			if b, e := rows.PutTable(x); len(b) > 0 || e != want {
				t.Errorf("PutTable(%s): %d, not %d", told(x), e, want)
			}
		}
	}
}

func TestGetTableRefuses(t *testing.T) { // P5.3
	wrong := [][]byte{
		nil,
		{0},
		{0, 0},
		{0, 0, 0, 0},
		{1, 't', 1, 1, 'c', 1, 8, 0},
		{1, 't', 1, 1, 'c', 1, 255, 0},
		{1, 't', 1, 1, 'c', 1, 128, 0, 0},
		{1, 't', 129, 0, 1, 'c', 1, 0, 0},
		{129, 0, 't', 0, 0},
		{1, 't', 1, 1, 'c', 1, 0, 1, 0, 128, 0},
		{1, 't', 1, 1, 'c', 1, 0, 1, 0, 255, 255, 255, 255, 255, 255, 255, 255, 255, 1},
		{255, 255, 255, 255, 255, 255, 255, 255, 255, 1},
		{0, 255, 255, 255, 255, 255, 255, 255, 255, 255, 1},
		{0, 0, 255, 255, 255, 255, 255, 255, 255, 255, 255, 1},
	}
	for _, l := range wrongTables() {
		for _, x := range l {
			wrong = append(wrong, plainTable(x))
		}
	}
	for _, b := range wrong {
		if x, e := rows.GetTable(b); !sameTable(x, api.Table{}) || e != api.ErrForm {
			t.Errorf("GetTable(%.40v): %s %d", b, told(x), e)
		}
	}
}

func TestGetTableOfAnyBytes(t *testing.T) { // P5.3, P5.5
	right := func(b []byte) {
		before := bytes.Clone(b)
		x, e := rows.GetTable(b)
		if !bytes.Equal(b, before) {
			t.Errorf("GetTable(%v) changed it to %v", before, b)
		}
		if e != api.OK {
			if e != api.ErrForm || !sameTable(x, api.Table{}) {
				t.Errorf("GetTable(%v): %s %d", b, told(x), e)
			}
			return
		}
		if again, e := rows.PutTable(x); !bytes.Equal(again, b) || e != api.OK {
			t.Errorf("GetTable(%v): %s, whose bytes are %v (%d)", b, told(x), again, e)
		}
	}
	fewBytes(7, []byte{0, 1, 2, 3, 128}, right)
	for _, x := range someTables() {
		near(plainTable(x), right)
	}
}

func TestTablesShareNothing(t *testing.T) { // R4
	x := example()
	x.Columns, x.Indexes = append(x.Columns, x.Columns...)[:2], append(x.Indexes, x.Indexes...)[:1]
	a, _ := rows.PutTable(x)
	b, _ := rows.PutTable(x)
	clear(a[:cap(a)])
	y, _ := rows.GetTable(b)
	z, _ := rows.GetTable(b)
	clear(b)
	clear(y.Columns[:cap(y.Columns)])
	clear(y.Indexes[:cap(y.Indexes)])
	if !sameTable(z, example()) || !sameTable(x, example()) || !slices.Equal(x.Columns[:4], append(example().Columns, example().Columns...)) {
		t.Errorf("%s and %s after bytes, and another answer, were cleared", told(x), told(z))
	}
}
