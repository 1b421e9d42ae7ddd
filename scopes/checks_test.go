package scopes_test

import (
	"fmt"
	"math/rand"
	"slices"
	"strings"
	"testing"

	"folkmoot/api"
	"folkmoot/scopes"
)

func col(name string) api.Expr { return api.Expr{Kind: api.ExCol, Name: name} }

func of(table, name string) api.Expr { return api.Expr{Kind: api.ExCol, Table: table, Name: name} }

func call(name string, l ...api.Expr) api.Expr {
	return api.Expr{Kind: api.ExCall, Name: name, L: l}
}

func star(name string, l ...api.Expr) api.Expr {
	return api.Expr{Kind: api.ExCall, Name: name, Star: true, L: l}
}

func one(op api.Op, l ...api.Expr) api.Expr { return api.Expr{Kind: api.ExOne, Op: op, L: l} }

func two(op api.Op, l ...api.Expr) api.Expr { return api.Expr{Kind: api.ExTwo, Op: op, L: l} }

func in(l ...api.Expr) api.Expr { return api.Expr{Kind: api.ExIn, L: l} }

// checks: an expression has that error.
func checks(t *testing.T, s *scopes.Scope, x api.Expr, groups bool, want api.Errno) {
	t.Helper()
	if e := s.Check(x, groups); e != want {
		t.Errorf("%.300s %v: %d, not %d", fmt.Sprintf("%+v", x), groups, e, want)
	}
}

// checksBoth: likewise, with groups and without them.
func checksBoth(t *testing.T, s *scopes.Scope, x api.Expr, want api.Errno) {
	t.Helper()
	checks(t, s, x, true, want)
	checks(t, s, x, false, want)
}

// takes: may a function have so many arguments, by the chapter's sentence?
func takes(name string, n int) bool {
	switch name {
	case "abs", "length", "upper", "lower", "sum", "min", "max", "count":
		return n == 1
	case "coalesce":
		return n >= 1
	}
	return n == 0 // random, now
}

const (
	aggregates = "count sum min max"
	scalars    = "abs length upper lower coalesce random now"
)

// Each function with few arguments and with many. (P9.4)
func TestFunctions(t *testing.T) {
	s := example(t)
	for _, name := range strings.Fields(aggregates + " " + scalars) {
		isAggregate := strings.Contains(aggregates, name)
		for _, n := range []int{0, 1, 2, 3, 4, 64, 65, 3000} {
			x := call(name, slices.Repeat([]api.Expr{col("id")}, n)...)
			switch {
			case !takes(name, n):
				checksBoth(t, s, x, api.ErrArg)
			case isAggregate:
				checks(t, s, x, true, api.OK)
				checks(t, s, x, false, api.ErrMany)
			default:
				checksBoth(t, s, x, api.OK)
			}
			x.Star = true
			if name != "count" || n != 0 {
				checksBoth(t, s, x, api.ErrArg)
			}
		}
	}
	checks(t, s, star("count"), true, api.OK)
	checks(t, s, star("count"), false, api.ErrMany)
}

func TestNoFunctions(t *testing.T) { // P9.4
	s := example(t)
	id := col("id")
	for _, name := range []string{"", "f", "SUM", "Abs", "abs ", "ab", "abss", "avg", "id", "select", "count(*)", "\x00", strings.Repeat("sum", 99999)} {
		for _, x := range []api.Expr{call(name), call(name, id), call(name, id, id), star(name), star(name, id), call(name, call("g")), call(name, api.Expr{})} {
			checksBoth(t, s, x, api.ErrName)
		}
	}
}

// Only the fields that an error is about have a meaning. (P9.4)
func TestOtherFields(t *testing.T) {
	s := example(t)
	for _, x := range []api.Expr{
		{Kind: api.ExLit, Op: 99, Table: "x", Name: "sum", Star: true, Value: api.Value{Kind: 9, I: 1, S: "a"}},
		{Kind: api.ExCol, Op: 99, Table: "v", Name: "b", Star: true, Value: api.Value{I: 1}},
		{Kind: api.ExOne, Op: api.OpNot, Table: "x", Name: "sum", Star: true, L: []api.Expr{col("id")}},
		{Kind: api.ExTwo, Op: api.OpOr, Table: "x", Name: "f", Star: true, L: []api.Expr{col("id"), col("b")}},
		{Kind: api.ExIn, Op: 99, Table: "x", Name: "max", Star: true, L: []api.Expr{col("id"), col("b")}},
		{Kind: api.ExCall, Op: 99, Table: "x", Name: "abs", L: []api.Expr{col("b")}},
	} {
		checksBoth(t, s, x, api.OK)
	}
	for _, name := range strings.Fields(aggregates) { // it is no call of that, so one may be in it
		for _, x := range []api.Expr{one(api.OpNeg, star("count")), in(star("count"), star("count")), {Kind: api.ExLit, L: []api.Expr{star("count")}}} {
			x.Name = name
			checks(t, s, x, true, api.OK)
			checks(t, s, x, false, api.ErrMany)
		}
	}
}

func TestOfColumns(t *testing.T) { // P9.4
	s := example(t)
	for _, table := range []string{"", "t", "u", "v", "T"} {
		for _, name := range []string{"", "id", "a", "b", "c", "ID"} {
			_, e := s.Find(table, name)
			checksBoth(t, s, of(table, name), e)
			checks(t, s, call("sum", of(table, name)), true, e)
		}
	}
	checksBoth(t, s, col("a"), api.ErrName)
	checksBoth(t, s, of("v", "a"), api.OK)
}

// Each kind of expression with each operator and several numbers of operands. (P9.4)
func TestShapes(t *testing.T) {
	s := example(t)
	for kind := range 256 {
		for op := range 256 {
			for n := range 5 {
				x := api.Expr{Kind: api.ExprKind(kind), Op: api.Op(op), L: slices.Repeat([]api.Expr{col("b")}, n)}
				want := api.ErrArg
				switch {
				case x.Kind == api.ExLit,
					x.Kind == api.ExOne && op >= 1 && op <= 4 && n == 1,
					x.Kind == api.ExTwo && op >= 5 && op <= 18 && n == 2,
					x.Kind == api.ExIn && n >= 2:
					want = api.OK
				case x.Kind == api.ExCol, x.Kind == api.ExCall:
					want = api.ErrName
				}
				checksBoth(t, s, x, want)
			}
		}
	}
	checksBoth(t, s, in(slices.Repeat([]api.Expr{col("b")}, 3000)...), api.OK)
}

// An expression's own error comes ahead of those of its operands, and these come one by one, each with all that is in it. (P9.4)
func TestFirstError(t *testing.T) {
	s := example(t)
	id, none, noKind, many := col("id"), col("none"), api.Expr{}, call("sum", col("id"))
	checks(t, s, call("f", noKind), true, api.ErrName)
	checks(t, s, call("abs", none, none), true, api.ErrArg)
	checks(t, s, call("sum", none), false, api.ErrMany)
	checks(t, s, call("sum", none), true, api.ErrName)
	checks(t, s, call("sum"), false, api.ErrArg)
	checks(t, s, call("sum", none, none), false, api.ErrArg)
	checks(t, s, star("sum"), false, api.ErrArg)
	checks(t, s, star("count", id), false, api.ErrArg)
	checks(t, s, call("max", call("min", none)), true, api.ErrMany)
	checks(t, s, call("max", call("min")), true, api.ErrArg)
	checks(t, s, one(api.OpAdd, none), true, api.ErrArg)
	checks(t, s, two(api.OpNot, none, none), true, api.ErrArg)
	checks(t, s, in(none), true, api.ErrArg)
	checks(t, s, two(api.OpAdd, none, noKind), false, api.ErrName)
	checks(t, s, two(api.OpAdd, noKind, none), false, api.ErrArg)
	checks(t, s, two(api.OpAdd, id, noKind), false, api.ErrArg)
	checks(t, s, two(api.OpAdd, many, none), false, api.ErrMany)
	checks(t, s, two(api.OpAdd, many, none), true, api.ErrName)
	checks(t, s, two(api.OpAdd, one(api.OpNot, one(api.OpNeg, noKind)), none), true, api.ErrArg)
	checks(t, s, two(api.OpAdd, one(api.OpNot, one(api.OpNeg, id)), none), true, api.ErrName)
	checks(t, s, in(id, id, id, call("abs", many), none), false, api.ErrMany)
	checks(t, s, in(id, id, id, call("abs", id), none), false, api.ErrName)
	checks(t, s, call("coalesce", id, id, one(api.OpNot, noKind), many), false, api.ErrArg)
	checks(t, s, api.Expr{Kind: api.ExLit, L: []api.Expr{id, noKind, none}}, false, api.ErrArg) // these are gone through, too
	checks(t, s, api.Expr{Kind: api.ExCol, Name: "id", L: []api.Expr{none, noKind}}, false, api.ErrName)
	checks(t, s, api.Expr{Kind: api.ExCol, Name: "none", L: []api.Expr{noKind}}, false, api.ErrName)
}

// An aggregate function in an argument of another one, at any depth, and beside it. (P9.4)
func TestAggregates(t *testing.T) {
	s := example(t)
	id := col("id")
	around := []func(x api.Expr) api.Expr{
		func(x api.Expr) api.Expr { return x },
		func(x api.Expr) api.Expr { return one(api.OpIsNull, x) },
		func(x api.Expr) api.Expr { return two(api.OpAdd, id, x) },
		func(x api.Expr) api.Expr { return two(api.OpAdd, x, id) },
		func(x api.Expr) api.Expr { return in(id, id, x) },
		func(x api.Expr) api.Expr { return call("abs", x) },
		func(x api.Expr) api.Expr { return call("coalesce", id, call("now"), x) },
		func(x api.Expr) api.Expr { return call("abs", one(api.OpNeg, in(id, x))) },
	}
	for _, inner := range strings.Fields(aggregates) {
		for _, outer := range strings.Fields(aggregates) {
			for _, wrap := range around {
				for _, again := range around {
					x := again(wrap(call(inner, id)))
					checks(t, s, x, true, api.OK)
					checks(t, s, x, false, api.ErrMany)
					checks(t, s, again(call(outer, wrap(id))), true, api.OK)
					checksBoth(t, s, again(call(outer, wrap(call(inner, id)))), api.ErrMany)
					checksBoth(t, s, call(outer, again(wrap(star("count")))), api.ErrMany)
				}
			}
			checks(t, s, two(api.OpMul, call(outer, id), call(inner, id)), true, api.OK)
			checks(t, s, in(call(outer, id), call(inner, id), id, star("count")), true, api.OK)
		}
	}
}

// part of an expression, with those around it.
type part struct {
	x      api.Expr
	around []api.Expr
}

// parts of an expression: itself, then those of its operands, one by one.
func parts(x api.Expr, around []api.Expr) []part {
	l := []part{{x, around}}
	for _, y := range x.L {
		l = append(l, parts(y, append(slices.Clone(around), x))...)
	}
	return l
}

func isAggregate(x api.Expr) bool {
	return x.Kind == api.ExCall && slices.Contains(strings.Fields(aggregates), x.Name)
}

// ownError of a part, as the chapter tells it.
func ownError(s *scopes.Scope, p part, groups bool) api.Errno {
	x, n := p.x, len(p.x.L)
	wrong := false
	switch x.Kind {
	case api.ExLit:
	case api.ExCol:
		_, e := s.Find(x.Table, x.Name)
		return e
	case api.ExCall:
		if !slices.Contains(strings.Fields(aggregates+" "+scalars), x.Name) {
			return api.ErrName
		}
		isStar := x.Star && x.Name == "count" && n == 0
		wrong = !isStar && (x.Star || !takes(x.Name, n))
		if !wrong && isAggregate(x) && (!groups || slices.ContainsFunc(p.around, isAggregate)) {
			return api.ErrMany
		}
	case api.ExOne:
		wrong = x.Op < 1 || x.Op > 4 || n != 1
	case api.ExTwo:
		wrong = x.Op < 5 || x.Op > 18 || n != 2
	case api.ExIn:
		wrong = n < 2
	default:
		wrong = true
	}
	if wrong {
		return api.ErrArg
	}
	return api.OK
}

func firstError(s *scopes.Scope, x api.Expr, groups bool) api.Errno {
	for _, p := range parts(x, nil) {
		if e := ownError(s, p, groups); e != api.OK {
			return e
		}
	}
	return api.OK
}

// random expression, of at most that depth; one time in so many something in it is amiss.
func random(r *rand.Rand, depth, amiss int) api.Expr {
	x := api.Expr{Kind: api.ExprKind(1 + r.Intn(2)), Name: "id"}
	operands := 0
	if depth > 1 {
		x.Kind = api.ExprKind(1 + r.Intn(6))
	}
	switch x.Kind {
	case api.ExCol:
		at := r.Intn(4)
		x.Table, x.Name = []string{"", "t", "v", ""}[at], []string{"id", "a", "a", "b"}[at]
	case api.ExOne:
		x.Op, operands = api.Op(1+r.Intn(4)), 1
	case api.ExTwo:
		x.Op, operands = api.Op(5+r.Intn(14)), 2
	case api.ExIn:
		operands = 2 + r.Intn(2)
	case api.ExCall:
		l := strings.Fields(aggregates + " " + scalars)
		x.Name = l[r.Intn(len(l))]
		for !takes(x.Name, operands) || x.Name == "coalesce" && r.Intn(2) == 0 {
			operands++
		}
		if x.Name == "count" && r.Intn(2) == 0 {
			x.Star, operands = true, 0
		}
	}
	switch r.Intn(7 * amiss) {
	case 0:
		x.Kind = api.ExprKind(r.Intn(9))
	case 1:
		x.Op = api.Op(r.Intn(21))
	case 2:
		x.Name = []string{"", "a", "b", "f", "sum"}[r.Intn(5)]
	case 3:
		x.Star = !x.Star
	case 4:
		operands = r.Intn(4)
	case 5:
		x.Table = []string{"", "t", "u", "v"}[r.Intn(4)]
	}
	for range operands {
		x.L = append(x.L, random(r, depth-1, amiss))
	}
	return x
}

// The first error of any expression is the one that the chapter tells; what is accepted without groups is accepted with them. (P9.4, P9.5)
func TestManyExpressions(t *testing.T) {
	s := example(t)
	r := rand.New(rand.NewSource(99))
	count := map[api.Errno]int{}
	for i := range 30000 {
		x := random(r, 1+r.Intn(6), 1+i%30)
		before := fmt.Sprintf("%+v", x)
		with, without := s.Check(x, true), s.Check(x, false)
		if with != firstError(s, x, true) || without != firstError(s, x, false) {
			t.Fatalf("%s: %d, %d", before, with, without)
		}
		if without == api.OK && with != api.OK {
			t.Fatalf("%s: %d", before, with)
		}
		if after := fmt.Sprintf("%+v", x); before != after {
			t.Fatalf("%s, not %s", after, before)
		}
		count[with]++
		count[without]++
	}
	for _, e := range []api.Errno{api.OK, api.ErrName, api.ErrArg, api.ErrMany} {
		if count[e] < 1000 {
			t.Errorf("%d: %d", e, count[e])
		}
	}
}

// IN of a list of what is accepted is accepted. (P9.5)
func TestListsInOne(t *testing.T) {
	s := example(t)
	r := rand.New(rand.NewSource(999))
	for range 3000 {
		groups := r.Intn(2) == 0
		var l []api.Expr
		for n := 2 + r.Intn(6); len(l) < n; {
			if x := random(r, 1+r.Intn(4), 50); s.Check(x, groups) == api.OK {
				l = append(l, x)
			}
		}
		checks(t, s, in(l...), groups, api.OK)
		l[r.Intn(len(l))] = col("none")
		checks(t, s, in(l...), groups, api.ErrName)
	}
}

// Each check ends, however deep or wide an expression is. (R1)
func TestDeepAndWide(t *testing.T) {
	s := example(t)
	for _, last := range []struct {
		x api.Expr
		e api.Errno
	}{{col("id"), api.OK}, {col("none"), api.ErrName}, {api.Expr{}, api.ErrArg}, {call("sum", col("id")), api.ErrMany}} {
		x := last.x
		for range 1<<16 - 2 {
			x = one(api.OpNeg, x)
		}
		if e := s.Check(x, false); e != last.e { // its text would be as deep
			t.Errorf("%d, not %d", e, last.e)
		}
		if e := s.Check(call("max", x), true); e != last.e {
			t.Errorf("%d, not %d", e, last.e)
		}
		wide := in(append(slices.Repeat([]api.Expr{col("id")}, 1<<18), last.x)...)
		if e := s.Check(wide, false); e != last.e {
			t.Errorf("%d, not %d", e, last.e)
		}
	}
}
