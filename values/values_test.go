package values_test

import (
	"cmp"
	"fmt"
	"math"
	"math/big"
	"slices"
	"strconv"
	"strings"
	"testing"

	"folkmoot/api"
	"folkmoot/values"
)

var (
	null = api.Value{}
	yes  = n(1)
	no   = n(0)
)

func n(i int64) api.Value { return api.Value{Kind: api.VkInt, I: i} }

func s(t string) api.Value { return api.Value{Kind: api.VkText, S: t} }

func long(size int) string { return strings.Repeat("l", size) }

// invalid: values that may not be, one for each way to be so, and some for several.
func invalid() []api.Value {
	return []api.Value{
		{I: 1},
		{I: -1},
		{S: "x"},
		{I: 1, S: "x"},
		{Kind: api.VkInt, S: "x"},
		{Kind: api.VkInt, I: 7, S: "7"},
		{Kind: api.VkText, I: 1},
		{Kind: api.VkText, I: math.MinInt64, S: "x"},
		s(long(513)),
		s(strings.Repeat("ö", 257)), // fewer letters than 512, but more bytes
		s(long(100000)),
		{Kind: 3},
		{Kind: 3, I: 1, S: "x"},
		{Kind: 255},
	}
}

// integers: small ones, and those around the powers of two and the roots of the greatest one.
func integers() []int64 {
	l := []int64{3037000499, 3037000500, -3037000499, -3037000500, 6074000999, -6074001000}
	for i := range int64(8) {
		l = append(l, i, -i)
	}
	for _, i := range []int{8, 16, 31, 32, 33, 61, 62, 63} {
		for d := range int64(3) {
			l = append(l, 1<<i+d-1, -1<<i+d-1)
		}
	}
	slices.Sort(l)
	return slices.Compact(l)
}

// rising: valid values in their order.
func rising() []api.Value {
	l := []api.Value{null}
	for _, i := range integers() {
		l = append(l, n(i))
	}
	for _, t := range []string{"", "\x00", "\x00\x00", "\x00a", "-5", "0", "1", "10", "2", "A", "NULL", "Z", "a", "a\x00", "aa", "ab", "b", long(511), long(512), "z", "\x7f", "\x80", "é", "ö", "\xff"} {
		l = append(l, s(t))
	}
	return l
}

// told: a value in a few letters.
func told(v api.Value) string { return fmt.Sprintf("%d/%d/%.20q(%d)", v.Kind, v.I, v.S, len(v.S)) }

// oneIs: One answers that.
func oneIs(t *testing.T, op api.Op, v, want api.Value, e api.Errno) {
	t.Helper()
	if got, f := values.One(op, v); got != want || f != e {
		t.Errorf("One(%d, %s): %s %d, not %s %d", op, told(v), told(got), f, told(want), e)
	}
}

// twoIs: Two answers that.
func twoIs(t *testing.T, op api.Op, a, b, want api.Value, e api.Errno) {
	t.Helper()
	if got, f := values.Two(op, a, b); got != want || f != e {
		t.Errorf("Two(%d, %s, %s): %s %d, not %s %d", op, told(a), told(b), told(got), f, told(want), e)
	}
}

// bothIs: Two answers that, whichever value is the first one.
func bothIs(t *testing.T, op api.Op, a, b, want api.Value, e api.Errno) {
	t.Helper()
	twoIs(t, op, a, b, want, e)
	twoIs(t, op, b, a, want, e)
}

func TestCheck(t *testing.T) { // P4.1
	for _, v := range append(rising(), s(strings.Repeat("ö", 256)), s("it's"), s("\xff\xfe"), s("\n")) {
		if !values.Check(v) {
			t.Errorf("%s is not valid", told(v))
		}
	}
	for _, v := range invalid() {
		if values.Check(v) {
			t.Errorf("%s is valid", told(v))
		}
	}
	for kind := 3; kind < 256; kind++ {
		if values.Check(api.Value{Kind: api.ValueKind(kind)}) {
			t.Errorf("kind %d is valid", kind)
		}
	}
}

func TestCmpExamples(t *testing.T) { // P4.2
	for _, c := range [][2]api.Value{{null, n(-5)}, {n(9), s("a")}, {s("a"), s("ab")}, {n(2), n(10)}} {
		if got := values.Cmp(c[0], c[1]); got != -1 {
			t.Errorf("Cmp(%s, %s): %d", told(c[0]), told(c[1]), got)
		}
	}
}

func TestCmp(t *testing.T) { // P4.2, P4.7: with each two of these in their order, it is total
	invalidToo := []api.Value{ // in their order: by Kind, then by I, then by S
		{I: math.MinInt64}, {I: -1, S: "x"}, {}, {S: "a"}, {S: "b"}, {I: 1}, {I: 1, S: "a"},
		{Kind: 1, I: -3}, {Kind: 1, I: -3, S: "a"}, {Kind: 1, I: -2}, {Kind: 1, I: 9},
		{Kind: 2, I: -1, S: "z"}, {Kind: 2, S: "a"}, {Kind: 2, S: long(513)}, {Kind: 2, S: long(514)}, {Kind: 2, I: 1}, {Kind: 2, I: 1, S: "a"},
		{Kind: 3}, {Kind: 3, S: "a"}, {Kind: 3, I: 5}, {Kind: 4, I: -9}, {Kind: 100}, {Kind: 127}, {Kind: 128}, {Kind: 255},
	}
	for _, l := range [][]api.Value{rising(), invalidToo} {
		for i, a := range l {
			for k, b := range l {
				if got := values.Cmp(a, b); got != cmp.Compare(i, k) {
					t.Errorf("Cmp(%s, %s): %d", told(a), told(b), got)
				}
			}
		}
	}
}

func TestOneExamples(t *testing.T) { // P4.3
	oneIs(t, api.OpNeg, n(5), n(-5), api.OK)
	oneIs(t, api.OpNot, null, null, api.OK)
	oneIs(t, api.OpNot, s("a"), null, api.ErrType)
	oneIs(t, api.OpIsNull, null, yes, api.OK)
}

func TestOne(t *testing.T) { // P4.3, row by row
	for _, c := range []struct {
		op         api.Op
		null, zero api.Value
		seven      api.Value
		least      api.Value
		leastE     api.Errno
		text       api.Value
		textE      api.Errno
	}{
		{api.OpNeg, null, no, n(-7), null, api.ErrOver, null, api.ErrType},
		{api.OpNot, null, yes, no, no, api.OK, null, api.ErrType},
		{api.OpIsNull, yes, no, no, no, api.OK, no, api.OK},
		{api.OpNotNull, no, yes, yes, yes, api.OK, yes, api.OK},
	} {
		oneIs(t, c.op, null, c.null, api.OK)
		oneIs(t, c.op, n(0), c.zero, api.OK)
		oneIs(t, c.op, n(7), c.seven, api.OK)
		oneIs(t, c.op, n(math.MinInt64), c.least, c.leastE)
		for _, text := range []string{"", "0", "7", "NULL", long(512)} {
			oneIs(t, c.op, s(text), c.text, c.textE)
		}
	}
	for _, i := range integers() {
		if i != math.MinInt64 {
			oneIs(t, api.OpNeg, n(i), n(-i), api.OK)
		}
		if i != 0 {
			oneIs(t, api.OpNot, n(i), no, api.OK)
		}
	}
}

func TestOneRefuses(t *testing.T) { // P4.3
	for i := range 256 {
		op := api.Op(i)
		if op >= api.OpNeg && op <= api.OpNotNull {
			for _, v := range invalid() {
				oneIs(t, op, v, null, api.ErrArg)
			}
			continue
		}
		for _, v := range append(invalid(), null, n(1), s("a")) {
			oneIs(t, op, v, null, api.ErrArg)
		}
	}
}

func TestTwoExamples(t *testing.T) { // P4.4
	twoIs(t, api.OpDiv, n(-7), n(2), n(-3), api.OK)
	twoIs(t, api.OpMod, n(-7), n(2), n(-1), api.OK)
	twoIs(t, api.OpDiv, n(1), n(0), null, api.ErrZero)
	twoIs(t, api.OpAdd, n(1), s("a"), null, api.ErrType)
	twoIs(t, api.OpAdd, null, s("a"), null, api.OK)
	twoIs(t, api.OpJoin, n(-5), s("a"), s("-5a"), api.OK)
	twoIs(t, api.OpLt, n(5), s("a"), yes, api.OK)
	twoIs(t, api.OpAnd, n(0), null, no, api.OK)
	twoIs(t, api.OpOr, n(0), null, null, api.OK)
}

func TestTwoRefuses(t *testing.T) { // P4.4
	for i := range 256 {
		op := api.Op(i)
		for _, v := range invalid() {
			for _, w := range []api.Value{null, n(0), s("a"), v} {
				bothIs(t, op, v, w, null, api.ErrArg)
			}
		}
		if op >= api.OpAdd && op <= api.OpOr {
			continue
		}
		for _, v := range []api.Value{null, n(1), s("a")} {
			for _, w := range []api.Value{null, n(0), s("")} {
				twoIs(t, op, v, w, null, api.ErrArg)
			}
		}
	}
}

// exactly: what reckoning with integers of any size gives.
func exactly(op api.Op, a, b int64) (api.Value, api.Errno) {
	x, y, z := big.NewInt(a), big.NewInt(b), new(big.Int)
	switch {
	case op == api.OpAdd:
		z.Add(x, y)
	case op == api.OpSub:
		z.Sub(x, y)
	case op == api.OpMul:
		z.Mul(x, y)
	case b == 0:
		return null, api.ErrZero
	case op == api.OpDiv:
		z.Quo(x, y)
	case op == api.OpMod:
		z.Sub(x, z.Mul(z.Quo(x, y), y))
	}
	if !z.IsInt64() {
		return null, api.ErrOver
	}
	return n(z.Int64()), api.OK
}

func TestArithmetic(t *testing.T) { // P4.4
	for op := api.OpAdd; op <= api.OpMod; op++ {
		for _, a := range integers() {
			for _, b := range integers() {
				want, e := exactly(op, a, b)
				twoIs(t, op, n(a), n(b), want, e)
			}
		}
	}
}

func TestArithmeticAtItsEdges(t *testing.T) { // P4.4
	most, least := int64(math.MaxInt64), int64(math.MinInt64)
	for _, c := range []struct {
		op      api.Op
		a, b, v int64
		e       api.Errno
	}{
		{api.OpAdd, most, 1, 0, api.ErrOver},
		{api.OpAdd, least, -1, 0, api.ErrOver},
		{api.OpAdd, most, least, -1, api.OK},
		{api.OpSub, least, 1, 0, api.ErrOver},
		{api.OpSub, 0, least, 0, api.ErrOver},
		{api.OpSub, -1, least, most, api.OK},
		{api.OpMul, least, -1, 0, api.ErrOver},
		{api.OpMul, -1, least, 0, api.ErrOver},
		{api.OpMul, 1 << 32, 1 << 32, 0, api.ErrOver}, // 0, if it went round
		{api.OpMul, least, 1, least, api.OK},
		{api.OpDiv, least, -1, 0, api.ErrOver},
		{api.OpMod, least, -1, 0, api.OK},
		{api.OpDiv, least, 0, 0, api.ErrZero},
		{api.OpMod, least, 0, 0, api.ErrZero},
		{api.OpDiv, 7, -2, -3, api.OK},
		{api.OpMod, 7, -2, 1, api.OK},
		{api.OpMod, -7, -2, -1, api.OK},
		{api.OpMod, -6, 2, 0, api.OK},
	} {
		want := n(c.v)
		if c.e != api.OK {
			want = null
		}
		twoIs(t, c.op, n(c.a), n(c.b), want, c.e)
	}
}

func TestArithmeticOfOtherKinds(t *testing.T) { // P4.4
	for op := api.OpAdd; op <= api.OpMod; op++ {
		for _, v := range []api.Value{null, n(0), n(1), n(math.MinInt64), s(""), s("1")} {
			bothIs(t, op, null, v, null, api.OK) // ahead of a string, and of a zero
		}
		for _, v := range []api.Value{n(0), n(1), s(""), s("1")} {
			bothIs(t, op, s("2"), v, null, api.ErrType) // ahead of a zero
		}
	}
}

func TestJoin(t *testing.T) { // P4.4
	for _, v := range rising() {
		bothIs(t, api.OpJoin, null, v, null, api.OK)
	}
	for _, c := range []struct {
		a, b api.Value
		want string
	}{
		{s(""), s(""), ""},
		{s("a"), s("b"), "ab"},
		{s("b"), s("a"), "ba"},
		{s("it's"), s("\x00\xff"), "it's\x00\xff"},
		{n(0), n(0), "00"},
		{n(12), n(-34), "12-34"},
		{s("x"), n(7), "x7"},
		{n(math.MinInt64), n(math.MaxInt64), "-92233720368547758089223372036854775807"},
		{s(long(512)), s(""), long(512)},
		{s(""), s(long(512)), long(512)},
		{s(long(256)), s(long(256)), long(512)},
		{s(long(511)), n(1), long(511) + "1"},
		{n(-123), s(long(508)), "-123" + long(508)},
	} {
		twoIs(t, api.OpJoin, c.a, c.b, s(c.want), api.OK)
	}
	bothIs(t, api.OpJoin, s(long(512)), n(1), null, api.ErrLimit)
	bothIs(t, api.OpJoin, s(long(511)), n(10), null, api.ErrLimit)
	bothIs(t, api.OpJoin, s(long(257)), s(long(256)), null, api.ErrLimit)
	bothIs(t, api.OpJoin, s(long(512)), s(long(512)), null, api.ErrLimit)
	bothIs(t, api.OpJoin, s(strings.Repeat("ö", 255)), s("éé"), null, api.ErrLimit) // fewer letters than 512, but more bytes
	bothIs(t, api.OpJoin, s(long(512)), null, null, api.OK)
}

func TestComparisons(t *testing.T) { // P4.4
	holds := map[api.Op][3]api.Value{ // the first one comes before, is equal, comes after
		api.OpEq: {no, yes, no},
		api.OpNe: {yes, no, yes},
		api.OpLt: {yes, no, no},
		api.OpLe: {yes, yes, no},
		api.OpGt: {no, no, yes},
		api.OpGe: {no, yes, yes},
	}
	l := rising()
	for op, want := range holds {
		for _, v := range l {
			bothIs(t, op, null, v, null, api.OK)
		}
		for i, a := range l[1:] {
			for k, b := range l[1:] {
				twoIs(t, op, a, b, want[1+cmp.Compare(i, k)], api.OK)
			}
		}
	}
}

func TestAndOr(t *testing.T) { // P4.4
	for _, c := range []struct{ a, b, and, or api.Value }{
		{no, no, no, no},
		{no, yes, no, yes},
		{yes, yes, yes, yes},
		{null, no, no, null},
		{null, yes, null, yes},
		{null, null, null, null},
		{n(-9), n(math.MinInt64), yes, yes},
		{n(2), n(1), yes, yes},
		{n(2), no, no, yes},
		{n(1 << 32), null, null, yes},
	} {
		bothIs(t, api.OpAnd, c.a, c.b, c.and, api.OK)
		bothIs(t, api.OpOr, c.a, c.b, c.or, api.OK)
	}
	for _, v := range []api.Value{null, no, yes, n(-2), s(""), s("1")} { // whatever the other one decides
		bothIs(t, api.OpAnd, s("1"), v, null, api.ErrType)
		bothIs(t, api.OpOr, s("0"), v, null, api.ErrType)
	}
}

func TestTruth(t *testing.T) { // P4.5
	type truth struct {
		yes, known bool
		e          api.Errno
	}
	is := func(v api.Value, want truth) {
		t.Helper()
		var got truth
		if got.yes, got.known, got.e = values.Truth(v); got != want {
			t.Errorf("Truth(%s): %v, not %v", told(v), got, want)
		}
	}
	is(null, truth{})
	for _, i := range integers() {
		is(n(i), truth{yes: i != 0, known: true})
	}
	for _, text := range []string{"", "0", "1", "NULL", long(512)} {
		is(s(text), truth{e: api.ErrType})
	}
	for _, v := range invalid() {
		is(v, truth{e: api.ErrArg})
	}
}

func TestText(t *testing.T) { // P4.6
	for _, c := range []struct {
		v    api.Value
		want string
	}{
		{null, "NULL"},
		{n(0), "0"},
		{n(7), "7"},
		{n(-5), "-5"},
		{n(math.MaxInt64), "9223372036854775807"},
		{n(-math.MaxInt64), "-9223372036854775807"},
		{n(math.MinInt64), "(-9223372036854775807 - 1)"},
		{s(""), "''"},
		{s("it's"), "'it''s'"},
		{s("'"), "''''"},
		{s("''a'"), "'''''a'''"},
		{s("NULL"), "'NULL'"},
		{s("-5"), "'-5'"},
		{s("a\\\n\"\x00\xffé"), "'a\\\n\"\x00\xffé'"},
		{s(long(512)), "'" + long(512) + "'"},
		{s(strings.Repeat("'", 512)), strings.Repeat("'", 1026)},
	} {
		if got := values.Text(c.v); got != c.want {
			t.Errorf("Text(%s): %q, not %q", told(c.v), got, c.want)
		}
	}
	for _, v := range invalid() {
		if got := values.Text(v); got != "" {
			t.Errorf("Text(%s): %q", told(v), got)
		}
	}
}

// meant: the value that a text of P4.6 writes.
func meant(text string) api.Value {
	if text == "NULL" {
		return null
	}
	if inner, ok := strings.CutPrefix(text, "'"); ok {
		return s(strings.ReplaceAll(inner[:len(inner)-1], "''", "'"))
	}
	if a, b, ok := strings.Cut(strings.Trim(text, "()"), " - "); ok {
		v, _ := values.Two(api.OpSub, meant(a), meant(b))
		return v
	}
	i, _ := strconv.ParseInt(text, 10, 64)
	return n(i)
}

func TestTextIsMeant(t *testing.T) { // P4.6
	for _, v := range append(rising(), s("'"), s("it's"), s("''''")) {
		if got := meant(values.Text(v)); got != v {
			t.Errorf("%s is written as %q, which is %s", told(v), values.Text(v), told(got))
		}
	}
}

func TestOneUndoesTheOther(t *testing.T) { // P4.7
	undoes := func(op, back api.Op, a, b api.Value) {
		c, e := values.Two(op, a, b)
		if e != api.OK {
			return
		}
		d, e := values.Two(back, c, b)
		if e == api.OK && d != a {
			t.Errorf("%s, op %d and then %d with %s: %s", told(a), op, back, told(b), told(d))
		}
	}
	for _, i := range integers() {
		for _, k := range integers() {
			undoes(api.OpAdd, api.OpSub, n(i), n(k))
			undoes(api.OpSub, api.OpAdd, n(i), n(k))
			undoes(api.OpMul, api.OpDiv, n(i), n(k))
		}
	}
}

func TestNot(t *testing.T) { // P4.7
	not := func(v api.Value) api.Value {
		v, e := values.One(api.OpNot, v)
		if e != api.OK {
			t.Errorf("NOT: error %d", e)
		}
		return v
	}
	two := func(op api.Op, a, b api.Value) api.Value {
		v, e := values.Two(op, a, b)
		if e != api.OK {
			t.Errorf("op %d: error %d", op, e)
		}
		return v
	}
	l := []api.Value{null}
	for _, i := range integers() {
		l = append(l, n(i))
		if is := not(not(n(i))) == yes; is != (i != 0) {
			t.Errorf("NOT NOT %d is true: %v", i, is)
		}
	}
	for _, a := range l {
		for _, b := range l {
			if not(two(api.OpAnd, a, b)) != two(api.OpOr, not(a), not(b)) {
				t.Errorf("NOT (%s AND %s)", told(a), told(b))
			}
			if not(two(api.OpOr, a, b)) != two(api.OpAnd, not(a), not(b)) {
				t.Errorf("NOT (%s OR %s)", told(a), told(b))
			}
		}
	}
}
