package prints_test

import (
	"fmt"
	"math/rand"
	"reflect"
	"slices"
	"strconv"
	"strings"
	"testing"
	"unsafe"

	"folkmoot/api"
	"folkmoot/prints"
	"folkmoot/trees"
	"folkmoot/words"
)

func col(name string) api.Expr { return api.Expr{Kind: api.ExCol, Name: name} }

func str(s string) api.Expr {
	return api.Expr{Kind: api.ExLit, Value: api.Value{Kind: api.VkText, S: s}}
}

// by an operator, with one operand or two.
func by(op api.Op, l ...api.Expr) api.Expr {
	return api.Expr{Kind: api.ExOne + api.ExprKind(len(l)-1), Op: op, L: l}
}

func in(l ...api.Expr) api.Expr { return api.Expr{Kind: api.ExIn, L: l} }

func call(name string, l ...api.Expr) api.Expr {
	return api.Expr{Kind: api.ExCall, Name: name, L: l}
}

// where: a statement with an expression.
func where(x api.Expr) api.Stmt { return api.Stmt{Kind: api.StDelete, Table: "t", Where: x} }

// printed: a tree is that text.
func printed[T any](t *testing.T, print func(x T) (string, api.Errno), x T, want string) {
	t.Helper()
	if got, e := print(x); got != want || e != api.OK {
		t.Errorf("%.300s: %q %d, not %q", fmt.Sprintf("%+v", x), got, e, want)
	}
}

// refused: a tree is that error.
func refused[T any](t *testing.T, print func(x T) (string, api.Errno), x T, want api.Errno) {
	t.Helper()
	if got, e := print(x); got != "" || e != want {
		t.Errorf("%.300s: %.300q %d, not %d", fmt.Sprintf("%+v", x), got, e, want)
	}
}

// exprIs: an expression is that text, alone and in a statement.
func exprIs(t *testing.T, x api.Expr, want string) {
	t.Helper()
	printed(t, prints.Expr, x, want)
	printed(t, prints.Of, where(x), "DELETE FROM t WHERE "+want)
}

// read: the tree of a text that has one.
func read[T any](t *testing.T, parse func(s string) (T, int, api.Errno), s string) T {
	t.Helper()
	x, at, e := parse(s)
	if e != api.OK {
		t.Fatalf("%q: %d at %d", s, e, at)
	}
	return x
}

// becomes: what is read of the first text is printed as the second one.
func becomes(t *testing.T, s, want string) {
	t.Helper()
	printed(t, prints.Of, read(t, trees.Of, s), want)
}

func exprBecomes(t *testing.T, s, want string) {
	t.Helper()
	exprIs(t, read(t, trees.Expr, s), want)
}

func TestExamples(t *testing.T) { // P8.1, P8.2
	a, b := col("a"), col("b")
	unit := api.Expr{Kind: api.ExLit, Value: api.Value{Kind: api.VkInt, I: 1}}
	exprIs(t, by(api.OpMul, by(api.OpAdd, a, b), by(api.OpNeg, by(api.OpSub, col("c"), unit))), "( a + b ) * - ( c - 1 )")
	exprIs(t, by(api.OpNot, by(api.OpAnd, by(api.OpEq, a, unit), by(api.OpIsNull, b))), "NOT ( a = 1 AND b IS NULL )")
	exprIs(t, call("f", a, str("x")), "f ( a , 'x' )")
	exprIs(t, in(api.Expr{Kind: api.ExCol, Table: "t", Name: "a"}, unit), "t . a IN ( 1 )")
	printed(t, prints.Of, api.Stmt{
		Kind: api.StSelect, Items: []api.Item{{E: a, As: "b"}}, From: []api.From{{Table: "t"}}, Order: []api.Order{{E: a, Down: true}}, Limit: 3,
	}, "SELECT a AS b FROM t ORDER BY a DESC LIMIT 3")
}

func TestLiterals(t *testing.T) { // P8.2
	for s, want := range map[string]string{
		"0": "0", "007": "7", "9223372036854775807": "9223372036854775807", "null": "NULL",
		"''": "''", "' a '": "' a '", "'it''s'": "'it''s'", "''''": "''''", "'NULL'": "'NULL'", "'\xff\x00\n'": "'\xff\x00\n'",
		"A": "a", "T.A": "t . a", "COUNT(*)": "count ( * )", "count( )": "count ( )", "f(((a)),(g(b)))": "f ( a , g ( b ) )",
		"-0": "- 0", "- - -1": "- - - 1", "a-1": "a - 1", "a- -1": "a - - 1", "(((1)))": "1",
		"a in(a,(b or c),null)": "a IN ( a , b OR c , NULL )",
	} {
		exprBecomes(t, s, want)
	}
}

// Each optional part of a statement is there and is not. (P8.1)
func TestOptionalParts(t *testing.T) {
	type part struct{ read, want string }
	statements := [][][]part{
		{{{"create table t(", "CREATE TABLE t ("}}, {{"a int", " a INT"}, {"b text", " b TEXT"}}, {{"", ""}, {" primary key", " PRIMARY KEY"}},
			{{"", ""}, {" unique", " UNIQUE"}}, {{"", ""}, {" not null", " NOT NULL"}}, {{")", " )"}, {",z int)", " , z INT )"}}},
		{{{"drop table T", "DROP TABLE t"}}},
		{{{"create index i on t(a)", "CREATE INDEX i ON t ( a )"}}},
		{{{"insert into t", "INSERT INTO t"}}, {{"", ""}, {"(a)", " ( a )"}, {"(b,a)", " ( b , a )"}}, {{" values(1,'x')", " VALUES ( 1 , 'x' )"}},
			{{"", ""}, {",((a))", " , ( a )"}, {",(a,b),(c)", " , ( a , b ) , ( c )"}}},
		{{{"update t set a=(1)", "UPDATE t SET a = 1"}}, {{"", ""}, {",b=(c=d)", " , b = c = d"}}, {{"", ""}, {" where((a)or b)", " WHERE a OR b"}}},
		{{{"delete from t", "DELETE FROM t"}}, {{"", ""}, {" where not(a)", " WHERE NOT a"}}},
		{{{"select ", "SELECT "}}, {{"*", "*"}, {"a", "a"}, {"(a)as b,c", "a AS b , c"}}, {{" from t", " FROM t"}, {" from t as v", " FROM t AS v"}},
			{{"", ""}, {" join u on(1)", " JOIN u ON 1"}, {" join u as w on a join t on b", " JOIN u AS w ON a JOIN t ON b"}},
			{{"", ""}, {" where a", " WHERE a"}}, {{"", ""}, {" group by a", " GROUP BY a"}, {" group by a,(b) having c", " GROUP BY a , b HAVING c"}},
			{{"", ""}, {" order by a", " ORDER BY a"}, {" order by a asc,b desc,c", " ORDER BY a , b DESC , c"}},
			{{"", ""}, {" limit 0", " LIMIT 0"}, {" limit 00 offset 0", " LIMIT 0"}, {" limit 3 offset 2", " LIMIT 3 OFFSET 2"},
				{" limit 9223372036854775807 offset 9223372036854775807", " LIMIT 9223372036854775807 OFFSET 9223372036854775807"}}},
	}
	for _, parts := range statements {
		all := []part{{}}
		for _, choices := range parts {
			var longer []part
			for _, p := range all {
				for _, c := range choices {
					longer = append(longer, part{p.read + c.read, p.want + c.want})
				}
			}
			all = longer
		}
		for _, p := range all {
			becomes(t, p.read, p.want)
		}
	}
}

// operandOf: how an expression is made with an operand, and what category that requires.
type operandOf struct {
	make     func(x api.Expr) api.Expr
	requires string
	text     string
}

const categories = "expr and not cmp sum prod neg prim"

// kinds of expressions by the document's table: what they are, and what they require of their operands.
func kinds() (whole map[string][]api.Expr, operands []operandOf) {
	a := col("a")
	whole = map[string][]api.Expr{
		"prim": {a, {Kind: api.ExCol, Table: "t", Name: "a"}, str("x"), {Kind: api.ExLit}, call("f"), call("f", a), {Kind: api.ExCall, Name: "f", Star: true}},
		"not":  {by(api.OpNot, a)},
		"neg":  {by(api.OpNeg, a)},
		"cmp":  {by(api.OpIsNull, a), by(api.OpNotNull, a), in(a, a)},
	}
	unary := func(op api.Op, requires, text string) {
		operands = append(operands, operandOf{func(x api.Expr) api.Expr { return by(op, x) }, requires, text})
	}
	unary(api.OpNot, "not", "NOT ?")
	unary(api.OpNeg, "neg", "- ?")
	unary(api.OpIsNull, "sum", "? IS NULL")
	unary(api.OpNotNull, "sum", "? IS NOT NULL")
	rows := []struct{ own, left, right, symbols string }{
		{"expr", "expr", "and", "OR"},
		{"and", "and", "not", "AND"},
		{"cmp", "sum", "sum", "= <> < <= > >="},
		{"sum", "sum", "prod", "+ - ||"},
		{"prod", "prod", "neg", "* / %"},
	}
	ops := map[string]api.Op{"+": api.OpAdd, "-": api.OpSub, "*": api.OpMul, "/": api.OpDiv, "%": api.OpMod, "||": api.OpJoin, "=": api.OpEq, "<>": api.OpNe,
		"<": api.OpLt, "<=": api.OpLe, ">": api.OpGt, ">=": api.OpGe, "AND": api.OpAnd, "OR": api.OpOr}
	for _, r := range rows {
		for _, symbol := range strings.Fields(r.symbols) {
			op := ops[symbol]
			whole[r.own] = append(whole[r.own], by(op, a, a))
			operands = append(operands,
				operandOf{func(x api.Expr) api.Expr { return by(op, x, a) }, r.left, "? " + symbol + " a"},
				operandOf{func(x api.Expr) api.Expr { return by(op, a, x) }, r.right, "a " + symbol + " ?"})
		}
	}
	operands = append(operands,
		operandOf{func(x api.Expr) api.Expr { return in(x, a) }, "sum", "? IN ( a )"},
		operandOf{func(x api.Expr) api.Expr { return in(a, x, a) }, "expr", "a IN ( ? , a )"},
		operandOf{func(x api.Expr) api.Expr { return in(a, a, x) }, "expr", "a IN ( a , ? )"},
		operandOf{func(x api.Expr) api.Expr { return call("f", x) }, "expr", "f ( ? )"},
		operandOf{func(x api.Expr) api.Expr { return call("f", a, x) }, "expr", "f ( a , ? )"})
	return whole, operands
}

// Each kind of expression as each operand of each kind. (P8.1, P8.2)
func TestParentheses(t *testing.T) {
	whole, operands := kinds()
	rank := func(category string) int { return slices.Index(strings.Fields(categories), category) }
	for own, l := range whole {
		for _, x := range l {
			inner, e := prints.Expr(x)
			if e != api.OK {
				t.Errorf("%+v: %d", x, e)
			}
			for _, o := range operands {
				operand := inner
				if rank(own) < rank(o.requires) {
					operand = "( " + inner + " )"
				}
				exprIs(t, o.make(x), strings.ReplaceAll(o.text, "?", operand))
			}
		}
	}
}

// plainly: the tokens of a text, and the text that they are with one blank between each two.
func plainly(t *testing.T, s string) ([]string, string) {
	t.Helper()
	l, at, e := words.Of(s)
	if e != api.OK {
		t.Fatalf("%q: %d at %d", s, e, at)
	}
	var tokens []string
	for _, w := range l {
		switch {
		case w.Kind == api.WoInt:
			tokens = append(tokens, strconv.FormatInt(w.I, 10))
		case w.Kind == api.WoText:
			tokens = append(tokens, "'"+strings.ReplaceAll(w.S, "'", "''")+"'")
		case words.Name(w.S):
			tokens = append(tokens, w.S)
		default:
			tokens = append(tokens, strings.ToUpper(w.S))
		}
	}
	return tokens, strings.Join(tokens, " ")
}

// pairs of parentheses: where they open, and where they close.
func pairs(tokens []string) (l [][2]int) {
	var open []int
	for i, token := range tokens {
		switch token {
		case "(":
			open = append(open, i)
		case ")":
			l = append(l, [2]int{open[len(open)-1], i})
			open = open[:len(open)-1]
		}
	}
	return l
}

// without the tokens at these places.
func without(tokens []string, pair [2]int) string {
	l := slices.Delete(slices.Clone(tokens), pair[1], pair[1]+1)
	return strings.Join(slices.Delete(l, pair[0], pair[0]+1), " ")
}

// isRight: a tree's text is read as that tree; it has one blank between each two tokens, and nothing that could be left out. That leaves no other text.
func isRight[T any](t *testing.T, print func(x T) (string, api.Errno), parse func(s string) (T, int, api.Errno), x T) (tokens []string) {
	t.Helper()
	s, e := print(x)
	if e != api.OK {
		t.Fatalf("%+v: %d", x, e)
	}
	if y := read(t, parse, s); !reflect.DeepEqual(x, y) {
		t.Fatalf("%q: %+v, not %+v", s, y, x)
	}
	tokens, plain := plainly(t, s)
	if s != plain || slices.Contains(tokens, "ASC") {
		t.Fatalf("%q, not %q", s, plain)
	}
	for _, pair := range pairs(tokens) {
		less := without(tokens, pair)
		if y, _, e := parse(less); e == api.OK && reflect.DeepEqual(x, y) {
			t.Fatalf("%q could be %q", s, less)
		}
	}
	return tokens
}

// sampled: trees of texts that are made by a rule.
func sampled[T any](t *testing.T, parse func(s string) (T, int, api.Errno), symbol string, check func(x T)) {
	t.Helper()
	r := rand.New(rand.NewSource(8))
	for made := 0; made < 1500; {
		s := textOf(r, symbol)
		x, at, e := parse(s)
		switch e {
		case api.OK:
			check(x)
			made++
		case api.ErrLimit:
		default:
			t.Fatalf("%q: %d at %d", s, e, at)
		}
	}
}

func TestStatements(t *testing.T) { // P8.1, P8.3
	sampled(t, trees.Of, "statement", func(x api.Stmt) {
		tokens := isRight(t, prints.Of, trees.Of, x)
		if slices.Contains(tokens, "OFFSET") != (x.Skip > 0) {
			t.Fatalf("%q: %d", tokens, x.Skip)
		}
	})
}

func TestExpressions(t *testing.T) { // P8.2, P8.3
	sampled(t, trees.Expr, "expr", func(x api.Expr) {
		exprIs(t, x, strings.Join(isRight(t, prints.Expr, trees.Expr, x), " "))
	})
}

// Of all small expressions each has a text of its own. (P8.3)
func TestDifferent(t *testing.T) {
	_, operands := kinds()
	seen := map[string]api.Expr{}
	var walk func(x api.Expr, deeper int)
	walk = func(x api.Expr, deeper int) {
		s, e := prints.Expr(x)
		if other, ok := seen[s]; e != api.OK || ok && !reflect.DeepEqual(other, x) {
			t.Fatalf("%+v: %q %d, as %+v", x, s, e, other)
		}
		seen[s] = x
		for _, o := range operands {
			if deeper > 0 {
				walk(o.make(x), deeper-1)
			}
		}
	}
	walk(col("a"), 3)
	walk(col("b"), 3)
}

// longest: a tree is that text, unless it is too long. No string in it has a blank.
func longest[T any](t *testing.T, print func(x T) (string, api.Errno), x T, text string) {
	t.Helper()
	if len(text) > api.MaxText || len(strings.Fields(text)) > api.MaxWords {
		refused(t, print, x, api.ErrLimit)
	} else {
		printed(t, print, x, text)
	}
}

// exprLongest: likewise, an expression and a statement with it.
func exprLongest(t *testing.T, x api.Expr, text string) {
	t.Helper()
	longest(t, prints.Expr, x, text)
	longest(t, prints.Of, where(x), "DELETE FROM t WHERE "+text)
}

// inStrings: a test for strings that have so many of these letters in all, and its text.
func inStrings(letter string, letters int) (api.Expr, string) {
	x := in(col("a"))
	var parts []string
	for range 8 {
		n := min(letters, api.MaxString)
		letters -= n
		s := strings.Repeat(letter, n)
		x.L = append(x.L, str(s))
		parts = append(parts, "'"+strings.ReplaceAll(s, "'", "''")+"'")
	}
	return x, "a IN ( " + strings.Join(parts, " , ") + " )"
}

func TestBytes(t *testing.T) { // P8.1, P8.2
	for letters := range 8 * api.MaxString {
		if letters > 1900 && letters < 2050 || letters > 3950 { // the texts of quotes and of other letters get too long
			x, text := inStrings("b", letters)
			exprLongest(t, x, text)
			x, text = inStrings("'", letters)
			exprLongest(t, x, text)
		}
	}
}

func TestTokens(t *testing.T) { // P8.1, P8.2
	for signs := 840; signs < 900; signs++ {
		x := call("f")
		var parts []string
		for i := range 64 {
			arg, text := col("a"), "a"
			for range (signs + i) / 64 {
				arg, text = by(api.OpNeg, arg), "- "+text
			}
			x.L, parts = append(x.L, arg), append(parts, text)
		}
		exprLongest(t, x, "f ( "+strings.Join(parts, " , ")+" )")
	}
	for names := range 30 {
		for width := 20; width < 26; width++ {
			x := api.Stmt{Kind: api.StInsert, Table: "t", Names: slices.Repeat([]string{"n"}, names)}
			x.Rows = slices.Repeat([][]api.Expr{slices.Repeat([]api.Expr{col("a")}, width)}, 20)
			row := "( " + strings.Join(slices.Repeat([]string{"a"}, width), " , ") + " )"
			text := "INSERT INTO t"
			if names > 0 {
				text += " ( " + strings.Join(x.Names, " , ") + " )"
			}
			longest(t, prints.Of, x, text+" VALUES "+strings.Join(slices.Repeat([]string{row}, 20), " , "))
		}
	}
}

// Lists that share their memory stand for more than could be printed. (P8.1, P8.2)
func TestHuge(t *testing.T) {
	x := col("a")
	for range 3 {
		x = call("f", slices.Repeat([]api.Expr{x}, 64)...)
	}
	refused(t, prints.Expr, x, api.ErrLimit)
	refused(t, prints.Of, where(x), api.ErrLimit)
	for range api.MaxDepth - 4 {
		x = by(api.OpNot, x)
	}
	refused(t, prints.Expr, x, api.ErrLimit)
	refused(t, prints.Expr, by(api.OpNot, x), api.ErrArg)
}

func TestDepth(t *testing.T) { // P8.1, P8.2
	x, text := col("a"), "a"
	for range api.MaxDepth - 1 {
		x, text = by(api.OpSub, col("b"), x), "b - ( "+text+" )"
	}
	text = strings.Replace(text, "( a )", "a", 1)
	exprIs(t, x, text)
	refused(t, prints.Expr, by(api.OpNeg, x), api.ErrArg)
	refused(t, prints.Of, where(by(api.OpNeg, x)), api.ErrArg)
}

func TestInvalid(t *testing.T) { // P8.1, P8.2
	a := col("a")
	long, _ := inStrings("'", 8*api.MaxString)
	refused(t, prints.Of, where(long), api.ErrLimit)
	for _, x := range []api.Expr{
		{Kind: api.ExOne, Op: api.OpNeg}, {Kind: api.ExTwo, Op: api.OpAdd, L: []api.Expr{a}}, by(api.OpNeg, a, a), by(api.OpOr+1, a, a), by(api.OpAdd, a),
		by(api.OpNone, a), by(255, a), in(a), in(), {Kind: api.ExIn}, col(""), col("A"), col("select"), col("aaaaaaaaaaaaaaaaa"), call(""), call("or", a),
		{Kind: api.ExCol, Table: "A", Name: "a"}, {Kind: api.ExCall, Name: "f", Star: true, L: []api.Expr{a}}, {Kind: api.ExCall + 1}, {Kind: 255},
		{Kind: api.ExLit, Value: api.Value{Kind: api.VkInt, I: -1}}, {Kind: api.ExLit, Value: api.Value{Kind: 9}}, str(strings.Repeat("a", api.MaxString+1)),
		{Kind: api.ExLit, Value: api.Value{S: "a"}}, {Kind: api.ExLit, Name: "a"}, call("f", slices.Repeat([]api.Expr{a}, 65)...), {Op: api.OpNeg}, {Name: "a"},
		{L: []api.Expr{a}}, by(api.OpNeg, api.Expr{}), in(a, api.Expr{}),
	} {
		refused(t, prints.Expr, x, api.ErrArg)
		refused(t, prints.Of, where(x), api.ErrArg)
		refused(t, prints.Expr, by(api.OpAnd, x, a), api.ErrArg)
		refused(t, prints.Expr, in(long, x), api.ErrArg)
		refused(t, prints.Of, where(in(long, x)), api.ErrArg)
	}
	refused(t, prints.Expr, api.Expr{}, api.ErrArg)
	printed(t, prints.Of, where(api.Expr{}), "DELETE FROM t")
	refused(t, prints.Of, api.Stmt{}, api.ErrArg)
	refused(t, prints.Of, api.Stmt{Kind: 255}, api.ErrArg)
}

// leaves of a tree that can be set.
func leaves(v reflect.Value) (l []reflect.Value) {
	switch v.Kind() {
	case reflect.Struct:
		for i := range v.NumField() {
			l = append(l, leaves(v.Field(i))...)
		}
		return l
	case reflect.Slice:
		for i := range v.Len() {
			l = append(l, leaves(v.Index(i))...)
		}
	}
	return append(l, v)
}

// spoil one of a tree's leaves.
func spoil(r *rand.Rand, v reflect.Value) {
	switch v.Kind() {
	case reflect.Bool:
		v.SetBool(!v.Bool())
	case reflect.String:
		v.SetString([]string{"", "a", "A", "null", "aaaaaaaaaaaaaaaaa"}[r.Intn(5)])
	case reflect.Int64:
		v.SetInt(int64(r.Intn(5) - 2))
	case reflect.Uint8:
		v.SetUint(uint64(r.Intn(20)))
	case reflect.Slice:
		more := reflect.Append(v, reflect.Zero(v.Type().Elem()))
		v.Set(more.Slice(min(r.Intn(2), v.Len()), more.Len()-r.Intn(2)))
		if v.Len() == 0 {
			v.SetZero()
		}
	}
}

// Exactly the trees that are not valid are refused. (P8.1, P8.2)
func TestSpoiled(t *testing.T) {
	r := rand.New(rand.NewSource(88))
	valid := 0
	sampled(t, trees.Of, "statement", func(x api.Stmt) {
		l := leaves(reflect.ValueOf(&x).Elem())
		spoil(r, l[r.Intn(len(l))])
		if !trees.Check(x) {
			refused(t, prints.Of, x, api.ErrArg)
		} else if isRight(t, prints.Of, trees.Of, x) != nil {
			valid++
		}
	})
	if valid == 0 {
		t.Error("none is valid")
	}
	sampled(t, trees.Expr, "expr", func(x api.Expr) {
		l := leaves(reflect.ValueOf(&x).Elem())
		spoil(r, l[r.Intn(len(l))])
		if x.Kind == api.ExNone || !trees.Check(where(x)) {
			refused(t, prints.Expr, x, api.ErrArg)
		} else {
			isRight(t, prints.Expr, trees.Expr, x)
		}
	})
}

// What is printed shares no memory with the tree. (R4)
func TestOwnMemory(t *testing.T) {
	for _, x := range []api.Expr{col("abc"), {Kind: api.ExLit, Value: api.Value{Kind: api.VkInt, I: 12345}}} {
		s, e := prints.Expr(x)
		again, _ := prints.Expr(x)
		if e != api.OK || unsafe.StringData(s) == unsafe.StringData(x.Name) || unsafe.StringData(s) == unsafe.StringData(again) {
			t.Errorf("%+v: %q %d", x, s, e)
		}
	}
}
