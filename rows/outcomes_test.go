package rows_test

import (
	"bytes"
	"encoding/binary"
	"math"
	"slices"
	"testing"

	"folkmoot/api"
	"folkmoot/rows"
)

// sameResult: are these the same? None and nil mean the same.
func sameResult(a, b api.Result) bool {
	return slices.Equal(a.Names, b.Names) && slices.EqualFunc(a.Rows, b.Rows, slices.Equal[[]api.Value]) && a.Changed == b.Changed
}

// sameOutcome: likewise.
func sameOutcome(a, b api.Outcome) bool {
	return a.E == b.E && a.At == b.At && slices.EqualFunc(a.Results, b.Results, sameResult)
}

// plainOutcome: the bytes of an outcome, whether it may be or not.
func plainOutcome(o api.Outcome) []byte {
	b := binary.AppendUvarint([]byte{byte(o.E), byte(o.At)}, uint64(len(o.Results)))
	for _, r := range o.Results {
		b = binary.AppendUvarint(b, uint64(len(r.Names)))
		for _, name := range r.Names {
			b = plainText(b, name)
		}
		b = binary.AppendUvarint(b, uint64(len(r.Rows)))
		for _, l := range r.Rows {
			b = plainValues(b, l)
		}
		b = binary.AppendVarint(b, r.Changed)
	}
	return b
}

// with: an outcome with these results.
func with(l ...api.Result) api.Outcome { return api.Outcome{Results: l} }

// withRows: a result that has them.
func withRows(l ...[]api.Value) api.Result { return api.Result{Rows: l} }

// two: an outcome with two results.
func two() api.Outcome {
	return with(api.Result{}, api.Result{Names: []string{"a", ""}, Rows: [][]api.Value{{n(1), s("x")}, {}}, Changed: -1})
}

// someOutcomes: those that may be.
func someOutcomes() []api.Outcome {
	l := []api.Outcome{
		{},
		{E: 14, At: 2},
		{E: 255, At: 255, Results: make([]api.Result, 8)},
		two(),
		with(api.Result{Names: make([]string, 64)}),
		with(api.Result{Names: []string{long(17), long(100000), "\x00\xff"}}),
		with(withRows(make([][]api.Value, 1024)...)),
		with(withRows(make([]api.Value, 64))),
		with(withRows(slices.Repeat([]api.Value{s(long(512))}, 64), nil, []api.Value{n(math.MinInt64)}, []api.Value{null})),
		with(withRows(rising()), api.Result{Changed: math.MaxInt64}, api.Result{Changed: math.MinInt64}),
		with(api.Result{Names: []string{"a"}}, withRows([]api.Value{null, n(5)}), api.Result{Changed: 64}),
	}
	for i := range 256 {
		l = append(l, api.Outcome{E: api.Errno(i)}, api.Outcome{At: i})
	}
	return l
}

func TestOutcomeExamples(t *testing.T) { // P5.4
	for _, c := range []struct {
		o    api.Outcome
		want []byte
	}{
		{api.Outcome{E: 14, At: 2}, []byte{14, 2, 0}},
		{api.Outcome{}, []byte{0, 0, 0}},
		{two(), []byte{0, 0, 2, 0, 0, 0, 2, 1, 'a', 0, 2, 2, 1, 2, 2, 1, 'x', 0, 1}},
	} {
		if b, e := rows.PutOutcome(c.o); !bytes.Equal(b, c.want) || e != api.OK {
			t.Errorf("PutOutcome(%s): %v %d, not %v", told(c.o), b, e, c.want)
		}
		if o, e := rows.GetOutcome(c.want); !sameOutcome(o, c.o) || e != api.OK {
			t.Errorf("GetOutcome(%v): %s %d, not %s", c.want, told(o), e, told(c.o))
		}
	}
}

func TestPutThenGetOutcome(t *testing.T) { // P5.4, P5.5
	for _, o := range someOutcomes() {
		b, e := rows.PutOutcome(o)
		if !bytes.Equal(b, plainOutcome(o)) || e != api.OK {
			t.Errorf("PutOutcome(%s): %.40v %d", told(o), b, e)
		}
		if got, e := rows.GetOutcome(b); !sameOutcome(got, o) || e != api.OK {
			t.Errorf("GetOutcome(%.40v): %s %d, not %s", b, told(got), e, told(o))
		}
	}
}

func TestGreatestOutcome(t *testing.T) { // P5.4: within seconds, so no part may cost as much as all bytes ahead of it
	row := slices.Repeat([]api.Value{n(-7)}, 64)
	rest := slices.Repeat([]api.Result{withRows(slices.Repeat([][]api.Value{row}, 1024)...)}, 8)
	b, e := rows.PutOutcome(with(rest...))
	if e != api.OK || !bytes.Equal(b, plainOutcome(with(rest...))) {
		t.Fatalf("%d bytes %d", len(b), e)
	}
	if o, e := rows.GetOutcome(b); e != api.OK || !sameOutcome(o, with(rest...)) {
		t.Errorf("%d", e)
	}
}

// wrongOutcomes: each with the error that PutOutcome answers.
func wrongOutcomes() map[api.Errno][]api.Outcome {
	over := make([]api.Value, 65)
	m := map[api.Errno][]api.Outcome{
		api.ErrLimit: {
			{Results: make([]api.Result, 9)},
			{E: 256, At: -1, Results: make([]api.Result, 9)},
			with(api.Result{Names: make([]string, 65)}),
			with(append(make([]api.Result, 7), api.Result{Names: make([]string, 65)})...),
			with(withRows(make([][]api.Value, 1025)...)),
			with(withRows(over)),
			with(withRows(append(make([][]api.Value, 1023), over)...)),
			with(api.Result{}, withRows(over)),
			with(withRows(slices.Repeat([]api.Value{{Kind: 3}}, 65))),
			{E: -1, Results: []api.Result{withRows([]api.Value{{Kind: 3}}), withRows(over)}},
		},
	}
	for _, v := range invalid() {
		full := slices.Repeat([]api.Value{null}, 64)
		full[63] = v
		m[api.ErrArg] = append(m[api.ErrArg], with(withRows([]api.Value{v})), with(api.Result{}, withRows(nil, full)), api.Outcome{E: 14, At: 1, Results: []api.Result{withRows(full)}})
	}
	return m
}

func TestPutOutcomeRefuses(t *testing.T) { // P5.4
	wrong := wrongOutcomes()
	for _, i := range []int{-1, 256, 257, -256, 1 << 32, math.MaxInt, math.MinInt} { // these have no byte
		wrong[api.ErrArg] = append(wrong[api.ErrArg], api.Outcome{E: api.Errno(i)}, api.Outcome{At: i}, api.Outcome{E: 7, At: i, Results: two().Results})
	}
	for want, l := range wrong {
		for _, o := range l {
			if b, e := rows.PutOutcome(o); len(b) > 0 || e != want {
				t.Errorf("PutOutcome(%s): %d, not %d", told(o), e, want)
			}
		}
	}
}

func TestGetOutcomeRefuses(t *testing.T) { // P5.4
	wrong := [][]byte{
		nil,
		{0},
		{0, 0},
		{0, 0, 0, 0},
		{0, 0, 128, 0},
		{0, 0, 1, 0, 0},
		{0, 0, 1, 0, 0, 128, 0},
		{0, 0, 1, 128, 0, 0, 0},
		{0, 0, 1, 0, 128, 0, 0},
		{0, 0, 1, 0, 1, 128, 0, 0},
		{0, 0, 1, 0, 1, 1, 3, 0},
		{0, 0, 1, 1, 128, 0, 0, 0},
		{0, 0, 255, 255, 255, 255, 255, 255, 255, 255, 255, 1},
		{0, 0, 1, 255, 255, 255, 255, 255, 255, 255, 255, 255, 1},
		{0, 0, 1, 0, 255, 255, 255, 255, 255, 255, 255, 255, 255, 1},
		{0, 0, 1, 0, 1, 255, 255, 255, 255, 255, 255, 255, 255, 255, 1},
	}
	for _, o := range wrongOutcomes()[api.ErrLimit] {
		wrong = append(wrong, plainOutcome(o))
	}
	for _, v := range []api.Value{s(long(513)), {Kind: 3}, {Kind: 255}} { // other invalid values have the bytes of valid ones
		wrong = append(wrong, plainOutcome(with(api.Result{}, withRows(nil, append(make([]api.Value, 63), v)))))
	}
	for _, b := range wrong {
		if o, e := rows.GetOutcome(b); !sameOutcome(o, api.Outcome{}) || e != api.ErrForm {
			t.Errorf("GetOutcome(%.40v): %s %d", b, told(o), e)
		}
	}
}

func TestGetOutcomeOfAnyBytes(t *testing.T) { // P5.4, P5.5
	right := func(b []byte) {
		before := bytes.Clone(b)
		o, e := rows.GetOutcome(b)
		if !bytes.Equal(b, before) {
			t.Errorf("GetOutcome(%v) changed it to %v", before, b)
		}
		if e != api.OK {
			if e != api.ErrForm || !sameOutcome(o, api.Outcome{}) {
				t.Errorf("GetOutcome(%v): %s %d", b, told(o), e)
			}
			return
		}
		if again, e := rows.PutOutcome(o); !bytes.Equal(again, b) || e != api.OK {
			t.Errorf("GetOutcome(%v): %s, whose bytes are %v (%d)", b, told(o), again, e)
		}
	}
	fewBytes(6, []byte{0, 1, 2, 3, 128}, func(b []byte) { right(append([]byte{0, 5}, b...)) })
	fewBytes(3, []byte{0, 1, 255}, right)
	for _, o := range someOutcomes() {
		if b := plainOutcome(o); len(b) < 2000 {
			near(b, right)
		}
	}
}

func TestOutcomesShareNothing(t *testing.T) { // R4
	o := two()
	a, _ := rows.PutOutcome(o)
	b, _ := rows.PutOutcome(o)
	clear(a[:cap(a)])
	x, _ := rows.GetOutcome(b)
	y, _ := rows.GetOutcome(b)
	clear(b)
	for _, r := range x.Results[:cap(x.Results)] {
		clear(r.Names[:cap(r.Names)])
		for _, l := range r.Rows {
			clear(l[:cap(l)])
		}
		clear(r.Rows[:cap(r.Rows)])
	}
	clear(x.Results)
	if !sameOutcome(y, two()) || !sameOutcome(o, two()) {
		t.Errorf("%s and %s after bytes, and another answer, were cleared", told(o), told(y))
	}
}

func TestRowsOfAnOutcomeShareNothing(t *testing.T) { // R4
	many := make([][]api.Value, 20)
	for i := range many {
		many[i] = slices.Repeat([]api.Value{n(int64(i))}, 3)
	}
	want := with(withRows(many...), withRows(many...))
	b, _ := rows.PutOutcome(want)
	o, _ := rows.GetOutcome(b)
	for _, r := range o.Results {
		for _, l := range r.Rows {
			for i := len(l); i < cap(l); i++ { // what stands behind a list may be a list's own only
				l[:cap(l)][i] = s("x")
			}
		}
		for i := len(r.Rows); i < cap(r.Rows); i++ {
			r.Rows[:cap(r.Rows)][i] = []api.Value{s("x")}
		}
	}
	if !sameOutcome(o, want) {
		t.Errorf("a list has what was written behind another one")
	}
	o.Results[0].Rows[0][0] = s("x")
	if !slices.Equal(o.Results[1].Rows[0], many[0]) {
		t.Errorf("a row has what was written into another one")
	}
}
