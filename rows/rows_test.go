package rows_test

import (
	"bytes"
	"encoding/binary"
	"fmt"
	"math"
	"slices"
	"strings"
	"testing"

	"folkmoot/api"
	"folkmoot/rows"
	"folkmoot/values"
)

var null = api.Value{}

func n(i int64) api.Value { return api.Value{Kind: api.VkInt, I: i} }

func s(t string) api.Value { return api.Value{Kind: api.VkText, S: t} }

func long(size int) string { return strings.Repeat("l", size) }

// invalid: values that may not be.
func invalid() []api.Value {
	return []api.Value{
		{I: 1},
		{S: "x"},
		{Kind: api.VkInt, S: "x"},
		{Kind: api.VkText, I: 1},
		s(long(513)),
		{Kind: 3},
		{Kind: 255},
	}
}

// rising: values in their order.
func rising() []api.Value {
	l := []api.Value{null}
	for _, i := range []int64{math.MinInt64, math.MinInt64 + 1, -1 << 32, -257, -256, -255, -65, -64, -2, -1, 0, 1, 63, 64, 127, 128, 255, 256, 257, 1 << 32, math.MaxInt64 - 1, math.MaxInt64} {
		l = append(l, n(i))
	}
	for _, t := range []string{"", "\x00", "\x00\x00", "\x00\x00\x00", "\x00\x01", "\x00\xff", "\x00\xff\x00", "\x01", "\x02", "a", "a\x00", "a\x00\x00", "a\x00b", "a\x00\xff", "a\x01", "aa", "ab", "b", long(511), long(512), "ö", "\xff", "\xff\x00", "\xff\xff"} {
		l = append(l, s(t))
	}
	return l
}

// lists of values: none, each one, each two, and some as long as may be.
func lists() [][]api.Value {
	l := [][]api.Value{nil, make([]api.Value, 16), slices.Repeat([]api.Value{s(long(512))}, 16), slices.Repeat([]api.Value{n(math.MinInt64)}, 15)}
	for _, a := range rising() {
		l = append(l, []api.Value{a})
		for _, b := range rising() {
			l = append(l, []api.Value{a, b}, []api.Value{b, null, a})
		}
	}
	return l
}

// plainText: the bytes of a string, by the standard library's integers.
func plainText(b []byte, t string) []byte {
	return append(binary.AppendUvarint(b, uint64(len(t))), t...)
}

// plainValues: the bytes of several values.
func plainValues(b []byte, l []api.Value) []byte {
	b = binary.AppendUvarint(b, uint64(len(l)))
	for _, v := range l {
		switch v.Kind {
		case api.VkNull:
			b = append(b, 0)
		case api.VkInt:
			b = binary.AppendVarint(append(b, 1), v.I)
		case api.VkText:
			b = plainText(append(b, 2), v.S)
		}
	}
	return b
}

// plainKey: what P5.2 says of a key, word by word.
func plainKey(l []api.Value) []byte {
	var b []byte
	for _, v := range l {
		switch v.Kind {
		case api.VkNull:
			b = append(b, 0)
		case api.VkInt:
			b = binary.BigEndian.AppendUint64(append(b, 1), uint64(v.I))
			b[len(b)-8] ^= 128
		case api.VkText:
			b = append(b, 2)
			for i := range len(v.S) {
				b = append(b, v.S[i])
				if v.S[i] == 0 {
					b = append(b, 255)
				}
			}
			b = append(b, 0, 0)
		}
	}
	return b
}

// told: anything in not too many letters.
func told(x any) string { return fmt.Sprintf("%.200s", fmt.Sprintf("%.20q", []any{x})) }

// near gives bytes that are not these, but nearly: shorter ones, longer ones, and some with one other byte.
func near(b []byte, yield func(b []byte)) {
	for i := range b {
		yield(b[:i:i])
	}
	for _, c := range []byte{0, 1, 255} {
		yield(append(bytes.Clone(b), c))
	}
	for i := range min(len(b), 50) {
		for _, c := range []byte{0, 1, 2, 3, 4, 7, 8, 9, 16, 17, 18, 64, 65, 66, 127, 128, 129, 255, b[i] ^ 1, b[i] + 128} {
			if c != b[i] {
				near := bytes.Clone(b)
				near[i] = c
				yield(near)
			}
		}
	}
}

// fewBytes gives all strings of at most so many bytes, of these.
func fewBytes(most int, of []byte, yield func(b []byte)) {
	var more func(b []byte)
	more = func(b []byte) {
		yield(bytes.Clone(b))
		if len(b) == most {
			return
		}
		for _, c := range of {
			more(append(b, c))
		}
	}
	more(make([]byte, 0, most))
}

// getIsRight: Get gives values with these bytes, or refuses; so it is right, if it gives back what Put has put.
func getIsRight(t *testing.T, b []byte) {
	t.Helper()
	before := bytes.Clone(b)
	l, e := rows.Get(b)
	if !bytes.Equal(b, before) {
		t.Errorf("Get(%v) changed it to %v", before, b)
	}
	switch {
	case e == api.OK && (len(l) > 16 || slices.ContainsFunc(l, func(v api.Value) bool { return !values.Check(v) })):
		t.Errorf("Get(%v): %s, which may not be", b, told(l))
	case e == api.OK && !bytes.Equal(plainValues(nil, l), b):
		t.Errorf("Get(%v): %s, whose bytes are others", b, told(l))
	case e != api.OK && (e != api.ErrForm || len(l) > 0):
		t.Errorf("Get(%v): %s %d", b, told(l), e)
	}
}

func TestPutExamples(t *testing.T) { // P5.1
	for _, c := range []struct {
		l    []api.Value
		want []byte
	}{
		{[]api.Value{null, n(-1), s("ab")}, []byte{3, 0, 1, 1, 2, 2, 'a', 'b'}},
		{nil, []byte{0}},
		{[]api.Value{}, []byte{0}},
		{[]api.Value{s("")}, []byte{1, 2, 0}},
		{[]api.Value{n(64), null}, []byte{2, 1, 128, 1, 0}},
		{[]api.Value{n(math.MinInt64)}, []byte{1, 1, 255, 255, 255, 255, 255, 255, 255, 255, 255, 1}},
	} {
		if b, e := rows.Put(c.l); !bytes.Equal(b, c.want) || e != api.OK {
			t.Errorf("Put(%s): %v %d, not %v", told(c.l), b, e, c.want)
		}
	}
}

func TestPutThenGet(t *testing.T) { // P5.1, P5.5
	for _, l := range lists() {
		b, e := rows.Put(l)
		if !bytes.Equal(b, plainValues(nil, l)) || e != api.OK {
			t.Errorf("Put(%s): %.40v %d", told(l), b, e)
		}
		if got, e := rows.Get(b); !slices.Equal(got, l) || e != api.OK {
			t.Errorf("Get(%.40v): %s %d, not %s", b, told(got), e, told(l))
		}
	}
}

func TestPutRefuses(t *testing.T) { // P5.1, P5.2
	is := func(l []api.Value, want api.Errno) {
		t.Helper()
		b, e := rows.Put(l)
		k, f := rows.Key(l)
		if e != want || f != want || len(b) > 0 || len(k) > 0 {
			t.Errorf("Put, Key(%s): %d %d, not %d", told(l), e, f, want)
		}
	}
	is(make([]api.Value, 17), api.ErrLimit)
	is(make([]api.Value, 100000), api.ErrLimit)
	for _, v := range invalid() {
		is([]api.Value{v}, api.ErrArg)
		for at := range 16 {
			l := slices.Repeat([]api.Value{n(5)}, 16)
			l[at] = v
			is(l, api.ErrArg)
		}
		is(slices.Repeat([]api.Value{v}, 17), api.ErrLimit)
	}
}

func TestGetRefuses(t *testing.T) { // P5.1
	for _, b := range [][]byte{
		nil,
		{},
		{1, 7},
		{0, 0},
		{1},
		{1, 3},
		{1, 255, 0},
		{2, 0},
		{1, 0, 0},
		{1, 1},
		{1, 1, 128},
		{1, 1, 128, 0},
		{1, 1, 255, 255, 255, 255, 255, 255, 255, 255, 255, 2},
		{1, 2},
		{1, 2, 1},
		{1, 2, 128, 0},
		{1, 2, 255, 255, 255, 255, 255, 255, 255, 255, 255, 1},
		{128, 0},
		{129, 0, 0},
		{255},
		{255, 255, 255, 255, 255, 255, 255, 255, 255, 1},
		make([]byte, 2),
		append([]byte{17}, make([]byte, 17)...),
		append([]byte{144, 128, 128, 128, 128, 128, 128, 128, 128, 1}, make([]byte, 16)...),
		plainValues(nil, []api.Value{s(long(513))}),
		plainValues(nil, []api.Value{s(long(100000))}),
		plainValues(nil, make([]api.Value, 1000)),
	} {
		if l, e := rows.Get(b); len(l) > 0 || e != api.ErrForm {
			t.Errorf("Get(%.40v): %s %d", b, told(l), e)
		}
	}
}

func TestGetOfAnyBytes(t *testing.T) { // P5.1, P5.5
	right := func(b []byte) { getIsRight(t, b) }
	fewBytes(6, []byte{0, 1, 2, 3, 16, 128, 255}, right)
	for _, l := range lists() {
		if b := plainValues(nil, l); len(b) < 50 {
			near(b, right)
		}
	}
	near(plainValues(nil, []api.Value{s(long(512))}), right)
	for a := range 256 {
		for b := range 256 {
			right([]byte{byte(a), byte(b)})
			right([]byte{1, byte(a), byte(b)})
		}
	}
}

func TestKeyExamples(t *testing.T) { // P5.2
	for _, c := range []struct {
		l    []api.Value
		want []byte
	}{
		{[]api.Value{null, n(1)}, []byte{0, 1, 128, 0, 0, 0, 0, 0, 0, 1}},
		{[]api.Value{s("a")}, []byte{2, 'a', 0, 0}},
		{[]api.Value{s("a\x00")}, []byte{2, 'a', 0, 255, 0, 0}},
		{nil, nil},
		{[]api.Value{s("")}, []byte{2, 0, 0}},
		{[]api.Value{s("\x00\xff\x00")}, []byte{2, 0, 255, 255, 0, 255, 0, 0}},
		{[]api.Value{n(-1)}, []byte{1, 127, 255, 255, 255, 255, 255, 255, 255}},
		{[]api.Value{n(math.MinInt64)}, []byte{1, 0, 0, 0, 0, 0, 0, 0, 0}},
		{[]api.Value{n(0x0102030405060708)}, []byte{1, 129, 2, 3, 4, 5, 6, 7, 8}},
	} {
		if k, e := rows.Key(c.l); !bytes.Equal(k, c.want) || e != api.OK {
			t.Errorf("Key(%s): %v %d, not %v", told(c.l), k, e, c.want)
		}
	}
}

func TestKey(t *testing.T) { // P5.2
	for _, l := range append(lists(), slices.Repeat([]api.Value{s(strings.Repeat("\x00", 512))}, 16)) {
		if k, e := rows.Key(l); !bytes.Equal(k, plainKey(l)) || e != api.OK {
			t.Errorf("Key(%s): %.40v %d", told(l), k, e)
		}
	}
}

func TestKeysAreOrdered(t *testing.T) { // P5.5
	all := [][]api.Value{{}}
	for i, a := range rising() {
		all = append(all, []api.Value{a})
		for k, b := range rising() {
			if (i+k)%2 == 0 {
				all = append(all, []api.Value{a, b}, []api.Value{a, b, null})
			}
		}
	}
	keys := make([][]byte, len(all))
	for i, l := range all {
		keys[i], _ = rows.Key(l)
	}
	for i, a := range all {
		for k, b := range all {
			if got := bytes.Compare(keys[i], keys[k]); got != slices.CompareFunc(a, b, values.Cmp) {
				t.Fatalf("keys of %s and %s: %v, %v", told(a), told(b), keys[i], keys[k])
			}
			if len(a) == len(b) && i != k && bytes.HasPrefix(keys[i], keys[k]) {
				t.Fatalf("key of %s: that of %s is a prefix of it", told(a), told(b))
			}
		}
	}
	if !slices.IsSortedFunc(rising(), values.Cmp) || len(all) < 1000 {
		t.Errorf("the test itself is not what it should be: %d lists", len(all))
	}
}

func TestValuesShareNothing(t *testing.T) { // R4
	whole := []api.Value{n(1), s("ab"), n(7), n(8)}
	for _, call := range []func(l []api.Value) ([]byte, api.Errno){rows.Put, rows.Key} {
		a, _ := call(whole[:2])
		b, _ := call(whole[:2])
		was := bytes.Clone(b)
		clear(a[:cap(a)])
		if !bytes.Equal(b, was) || !slices.Equal(whole, []api.Value{n(1), s("ab"), n(7), n(8)}) {
			t.Errorf("%v after another answer was cleared, of %s", b, told(whole))
		}
	}
	b := []byte{2, 1, 2, 2, 2, 'a', 'b'}
	l, _ := rows.Get(b)
	m, _ := rows.Get(b)
	clear(l[:cap(l)])
	clear(b)
	if !slices.Equal(m, whole[:2]) {
		t.Errorf("%s after bytes, and another answer, were cleared", told(m))
	}
}
