package trees_test

import (
	"fmt"
	"math"
	"math/rand"
	"reflect"
	"slices"
	"strings"
	"testing"
	"unsafe"

	"folkmoot/api"
	"folkmoot/trees"
)

var null = api.Expr{Kind: api.ExLit}

func n(i int64) api.Expr {
	return api.Expr{Kind: api.ExLit, Value: api.Value{Kind: api.VkInt, I: i}}
}

func s(t string) api.Expr {
	return api.Expr{Kind: api.ExLit, Value: api.Value{Kind: api.VkText, S: t}}
}

func col(name string) api.Expr { return api.Expr{Kind: api.ExCol, Name: name} }

func of(table, name string) api.Expr { return api.Expr{Kind: api.ExCol, Table: table, Name: name} }

func one(op api.Op, x api.Expr) api.Expr {
	return api.Expr{Kind: api.ExOne, Op: op, L: []api.Expr{x}}
}

func two(op api.Op, x, y api.Expr) api.Expr {
	return api.Expr{Kind: api.ExTwo, Op: op, L: []api.Expr{x, y}}
}

func in(l ...api.Expr) api.Expr { return api.Expr{Kind: api.ExIn, L: l} }

func call(name string, l ...api.Expr) api.Expr {
	return api.Expr{Kind: api.ExCall, Name: name, L: l}
}

// parsed: a text is that, by one of the two functions.
func parsed[T any](t *testing.T, parse func(s string) (T, int, api.Errno), s string, want T) {
	t.Helper()
	if x, at, e := parse(s); !reflect.DeepEqual(x, want) || at != 0 || e != api.OK {
		t.Errorf("%.200q: %+v %d %d, not %+v", s, x, at, e, want)
	}
}

// refused: a text is that error.
func refused[T any](t *testing.T, parse func(s string) (T, int, api.Errno), s string, at int, e api.Errno) {
	t.Helper()
	var zero T
	if x, k, f := parse(s); !reflect.DeepEqual(x, zero) || k != at || f != e {
		t.Errorf("%.200q: %+v %d %d, not %d %d", s, x, k, f, at, e)
	}
}

func exprIs(t *testing.T, s string, want api.Expr) {
	t.Helper()
	parsed(t, trees.Expr, s, want)
}

func stmtIs(t *testing.T, s string, want api.Stmt) {
	t.Helper()
	parsed(t, trees.Of, s, want)
}

// noForm: neither function takes it, at that place.
func noForm(t *testing.T, s string, at int) {
	t.Helper()
	refused(t, trees.Of, s, at, api.ErrForm)
}

// checks: Check answers that.
func checks(t *testing.T, x api.Stmt, want bool) {
	t.Helper()
	if got := trees.Check(x); got != want {
		t.Errorf("Check(%.300s): %v", fmt.Sprintf("%+v", x), got)
	}
}

// exprChecks: an expression is valid, or not, wherever it stands.
func exprChecks(t *testing.T, x api.Expr, want bool) {
	t.Helper()
	for _, y := range placesOf(x) {
		checks(t, y, want)
	}
}

// placesOf an expression: statements with it.
func placesOf(x api.Expr) []api.Stmt {
	a := col("a")
	t := api.From{Table: "t"}
	items := []api.Item{{E: a}}
	return []api.Stmt{
		{Kind: api.StDelete, Table: "t", Where: x},
		{Kind: api.StUpdate, Table: "t", Names: []string{"a"}, Rows: [][]api.Expr{{x}}},
		{Kind: api.StUpdate, Table: "t", Names: []string{"a", "b"}, Rows: [][]api.Expr{{a, x}}, Where: a},
		{Kind: api.StUpdate, Table: "t", Names: []string{"a"}, Rows: [][]api.Expr{{a}}, Where: x},
		{Kind: api.StInsert, Table: "t", Rows: [][]api.Expr{{x}}},
		{Kind: api.StInsert, Table: "t", Rows: [][]api.Expr{{a}, {a, x}}},
		{Kind: api.StSelect, Items: []api.Item{{E: x}}, From: []api.From{t}, Limit: -1},
		{Kind: api.StSelect, Items: []api.Item{{E: a}, {E: x, As: "b"}}, From: []api.From{t}, Limit: -1},
		{Kind: api.StSelect, Items: items, From: []api.From{t, {Table: "u", On: x}}, Limit: -1},
		{Kind: api.StSelect, Items: items, From: []api.From{t, {Table: "u", On: a}, {Table: "v", On: x}}, Limit: -1},
		{Kind: api.StSelect, Items: items, From: []api.From{t}, Where: x, Limit: -1},
		{Kind: api.StSelect, Items: items, From: []api.From{t}, Group: []api.Expr{a, x}, Limit: -1},
		{Kind: api.StSelect, Items: items, From: []api.From{t}, Group: []api.Expr{a}, Having: x, Limit: -1},
		{Kind: api.StSelect, Items: items, From: []api.From{t}, Order: []api.Order{{E: a}, {E: x, Down: true}}, Limit: -1},
	}
}

func TestExamples(t *testing.T) { // P7.1, P7.3
	exprIs(t, "a + b * -2", two(api.OpAdd, col("a"), two(api.OpMul, col("b"), one(api.OpNeg, n(2)))))
	exprIs(t, "NOT a IN (1, 'x')", one(api.OpNot, in(col("a"), n(1), s("x"))))
	exprIs(t, "t.a IS NOT NULL", one(api.OpNotNull, of("t", "a")))
	stmtIs(t, "SELECT * FROM t LIMIT 3", api.Stmt{Kind: api.StSelect, Items: []api.Item{{Star: true}}, From: []api.From{{Table: "t"}}, Limit: 3})
	noForm(t, "DELETE FROM t WHERE", 19)
	noForm(t, "SELECT a = b = c FROM t", 13)
	noForm(t, "DROP t", 5)
}

func TestOperands(t *testing.T) { // P7.3
	exprIs(t, "0", n(0))
	exprIs(t, "9223372036854775807", n(math.MaxInt64))
	exprIs(t, "007", n(7))
	exprIs(t, "''", s(""))
	exprIs(t, "'It''s'", s("It's"))
	exprIs(t, "'null'", s("null"))
	exprIs(t, "'"+strings.Repeat("l", 512)+"'", s(strings.Repeat("l", 512)))
	exprIs(t, "NULL", null)
	exprIs(t, "nUlL", null)
	exprIs(t, "A", col("a"))
	exprIs(t, "T . aB", of("t", "ab"))
	exprIs(t, "count", col("count"))
	exprIs(t, "f()", call("f"))
	exprIs(t, "F(*)", api.Expr{Kind: api.ExCall, Name: "f", Star: true})
	exprIs(t, "f(a, NULL, g(1))", call("f", col("a"), null, call("g", n(1))))
	exprIs(t, "((((a))))", col("a"))
	for _, word := range []string{"select", "INT", "Text", "key", "as", "asc"} {
		refused(t, trees.Expr, word, 0, api.ErrForm)
		refused(t, trees.Expr, "a."+word, 2, api.ErrForm)
		refused(t, trees.Expr, word+"(a)", 0, api.ErrForm)
	}
	refused(t, trees.Expr, "'a'(1)", 3, api.ErrForm)
	refused(t, trees.Expr, "'a'.b", 3, api.ErrForm)
	refused(t, trees.Expr, "a.'b'", 2, api.ErrForm)
	refused(t, trees.Expr, "a.b.c", 3, api.ErrForm)
	refused(t, trees.Expr, "a.b(1)", 3, api.ErrForm)
	refused(t, trees.Expr, "f(1, *)", 5, api.ErrForm)
	refused(t, trees.Expr, "a '+' b", 2, api.ErrForm)
	refused(t, trees.Expr, "a 'and' b", 2, api.ErrForm)
	refused(t, trees.Expr, "f '(' a)", 2, api.ErrForm)
}

// binaries by their levels, the loosest first.
var binaries = [][]string{{"OR"}, {"AND"}, {"=", "<>", "<", "<=", ">", ">="}, {"+", "-", "||"}, {"*", "/", "%"}}

// opOf a symbol.
func opOf(symbol string) api.Op {
	for op, p := range places {
		if p.symbol == symbol {
			return op
		}
	}
	return api.OpNone
}

func TestBinaries(t *testing.T) { // P7.3
	a, b, c := col("a"), col("b"), col("c")
	for i, l := range binaries {
		for _, p := range l {
			x := opOf(p)
			exprIs(t, "a "+p+" b", two(x, a, b))
			for j, m := range binaries {
				for _, q := range m {
					y := opOf(q)
					text := "a " + p + " b " + q + " c"
					switch {
					case i == 2 && j == 2:
						refused(t, trees.Expr, text, len(text)-len(q)-2, api.ErrForm)
					case j > i:
						exprIs(t, text, two(x, a, two(y, b, c)))
					default:
						exprIs(t, text, two(y, two(x, a, b), c))
					}
					exprIs(t, "a "+p+" (b "+q+" c)", two(x, a, two(y, b, c)))
					exprIs(t, "(a "+p+" b) "+q+" c", two(y, two(x, a, b), c))
				}
			}
		}
	}
}

func TestUnaries(t *testing.T) { // P7.3
	a, b := col("a"), col("b")
	for i, l := range binaries {
		for _, p := range l {
			x := opOf(p)
			exprIs(t, "-a "+p+" -b", two(x, one(api.OpNeg, a), one(api.OpNeg, b)))
			exprIs(t, "-(a "+p+" b)", one(api.OpNeg, two(x, a, b)))
			exprIs(t, "not (a "+p+" b)", one(api.OpNot, two(x, a, b)))
			exprIs(t, "(a "+p+" b) is null", one(api.OpIsNull, two(x, a, b)))
			if i < 2 {
				exprIs(t, "NOT a "+p+" NOT b", two(x, one(api.OpNot, a), one(api.OpNot, b)))
				exprIs(t, "a "+p+" b IS NULL", two(x, a, one(api.OpIsNull, b)))
				exprIs(t, "a IS NULL "+p+" b", two(x, one(api.OpIsNull, a), b))
				exprIs(t, "a IN (1) "+p+" b IN (2)", two(x, in(a, n(1)), in(b, n(2))))
			} else {
				exprIs(t, "NOT a "+p+" b", one(api.OpNot, two(x, a, b)))
				refused(t, trees.Expr, "a "+p+" NOT b", len(p)+3, api.ErrForm)
				refused(t, trees.Expr, "a IS NULL "+p+" b", 10, api.ErrForm)
				refused(t, trees.Expr, "a IN (1) "+p+" b", 9, api.ErrForm)
			}
			if i == 2 {
				refused(t, trees.Expr, "a "+p+" b IS NULL", len(p)+5, api.ErrForm)
				refused(t, trees.Expr, "a "+p+" b IN (1)", len(p)+5, api.ErrForm)
			}
			if i > 2 {
				exprIs(t, "a "+p+" b IS NOT NULL", one(api.OpNotNull, two(x, a, b)))
				exprIs(t, "a "+p+" b IN (1)", in(two(x, a, b), n(1)))
			}
		}
	}
	exprIs(t, "- - - a", one(api.OpNeg, one(api.OpNeg, one(api.OpNeg, a))))
	exprIs(t, "NOT NOT a", one(api.OpNot, one(api.OpNot, a)))
	exprIs(t, "NOT -a IS NULL", one(api.OpNot, one(api.OpIsNull, one(api.OpNeg, a))))
	exprIs(t, "-9223372036854775807 - 1", two(api.OpSub, one(api.OpNeg, n(math.MaxInt64)), n(1)))
	exprIs(t, "a IN (b OR a, NOT a, (1))", in(a, two(api.OpOr, b, a), one(api.OpNot, a), n(1)))
	refused(t, trees.Expr, "a NOT IN (1)", 2, api.ErrForm)
	refused(t, trees.Expr, "a IS NOT 1", 9, api.ErrForm)
	refused(t, trees.Expr, "a IS NULL IS NULL", 10, api.ErrForm)
	refused(t, trees.Expr, "a IN (1) IN (1)", 9, api.ErrForm)
	refused(t, trees.Expr, "- NOT a", 2, api.ErrForm)
	refused(t, trees.Expr, "+a", 0, api.ErrForm)
}

func TestStatements(t *testing.T) { // P7.1
	a, b := col("a"), col("b")
	from := []api.From{{Table: "t"}}
	items := []api.Item{{E: a}}
	stmtIs(t, "create table T (a int, B TEXT primary key, c INT unique, d TEXT not null, e INT PRIMARY KEY UNIQUE NOT NULL)", api.Stmt{Kind: api.StCreate, Table: "t", Columns: []api.Column{
		{Name: "a", Type: api.VkInt}, {Name: "b", Type: api.VkText, Primary: true}, {Name: "c", Type: api.VkInt, Unique: true},
		{Name: "d", Type: api.VkText, NotNull: true}, {Name: "e", Type: api.VkInt, Primary: true, Unique: true, NotNull: true}}})
	stmtIs(t, "DROP TABLE t", api.Stmt{Kind: api.StDrop, Table: "t"})
	stmtIs(t, "CREATE INDEX i ON t (a)", api.Stmt{Kind: api.StIndex, Name: "i", Table: "t", Names: []string{"a"}})
	stmtIs(t, "INSERT INTO t VALUES (a)", api.Stmt{Kind: api.StInsert, Table: "t", Rows: [][]api.Expr{{a}}})
	stmtIs(t, "INSERT INTO t (c, a, c) VALUES (1, 2), (b), (a OR b, NULL, 'x', 4)", api.Stmt{Kind: api.StInsert, Table: "t", Names: []string{"c", "a", "c"}, Rows: [][]api.Expr{{n(1), n(2)}, {b}, {two(api.OpOr, a, b), null, s("x"), n(4)}}})
	stmtIs(t, "UPDATE t SET a = b", api.Stmt{Kind: api.StUpdate, Table: "t", Names: []string{"a"}, Rows: [][]api.Expr{{b}}})
	stmtIs(t, "UPDATE t SET a = a = b, b = 2, a = NULL WHERE a = b", api.Stmt{Kind: api.StUpdate, Table: "t", Names: []string{"a", "b", "a"}, Rows: [][]api.Expr{{two(api.OpEq, a, b), n(2), null}}, Where: two(api.OpEq, a, b)})
	stmtIs(t, "DELETE FROM t", api.Stmt{Kind: api.StDelete, Table: "t"})
	stmtIs(t, "DELETE FROM t WHERE NOT a", api.Stmt{Kind: api.StDelete, Table: "t", Where: one(api.OpNot, a)})
	stmtIs(t, "SELECT a FROM t", api.Stmt{Kind: api.StSelect, Items: items, From: from, Limit: -1})
	stmtIs(t, "SELECT a FROM t LIMIT 0", api.Stmt{Kind: api.StSelect, Items: items, From: from})
	stmtIs(t, "SELECT a FROM t LIMIT 1 OFFSET 0", api.Stmt{Kind: api.StSelect, Items: items, From: from, Limit: 1})
	stmtIs(t, "SELECT a FROM t LIMIT 9223372036854775807 OFFSET 9223372036854775807", api.Stmt{Kind: api.StSelect, Items: items, From: from, Limit: math.MaxInt64, Skip: math.MaxInt64})
	stmtIs(t, "SELECT a FROM t GROUP BY a", api.Stmt{Kind: api.StSelect, Items: items, From: from, Group: []api.Expr{a}, Limit: -1})
	stmtIs(t, "SELECT a FROM t ORDER BY a ASC, b, b DESC", api.Stmt{Kind: api.StSelect, Items: items, From: from, Order: []api.Order{{E: a}, {E: b}, {E: b, Down: true}}, Limit: -1})
	stmtIs(t, "select *\nfrom t as x join u on x.a = u.a join v as y on a or b where a group by a, b having a order by b limit 2 offset 3", api.Stmt{
		Kind: api.StSelect, Items: []api.Item{{Star: true}},
		From:  []api.From{{Table: "t", As: "x"}, {Table: "u", On: two(api.OpEq, of("x", "a"), of("u", "a"))}, {Table: "v", As: "y", On: two(api.OpOr, a, b)}},
		Where: a, Group: []api.Expr{a, b}, Having: a, Order: []api.Order{{E: b}}, Limit: 2, Skip: 3})
	stmtIs(t, "SELECT a AS b, count(*), a + b AS c FROM t", api.Stmt{Kind: api.StSelect, Items: []api.Item{{E: a, As: "b"}, {E: api.Expr{Kind: api.ExCall, Name: "count", Star: true}}, {E: two(api.OpAdd, a, b), As: "c"}}, From: from, Limit: -1})
}

// tokens of a text, one of each kind.
func sample(token string) string {
	switch token {
	case "name":
		return "a"
	case "number":
		return "1"
	case "string":
		return "'and'"
	}
	return token
}

// foreseen: a function takes a text, and what may follow it, as the grammar says.
func foreseen[T any](t *testing.T, parse func(s string) (T, int, api.Errno), r *recognizer, text string) {
	t.Helper()
	if _, at, e := parse(text); r.whole() {
		if at != 0 || e != api.OK && e != api.ErrLimit {
			t.Errorf("%q: %d %d", text, at, e)
		}
	} else {
		refused(t, parse, text, len(text), api.ErrForm)
	}
	may := r.tokens()
	for _, token := range r.g.tokens {
		if longer := text + sample(token); !slices.Contains(may, token) {
			refused(t, parse, longer, len(text), api.ErrForm)
			refused(t, parse, longer+" (a) ) select 'x' 1", len(text), api.ErrForm)
		} else if _, at, e := parse(longer + " "); e == api.ErrForm && at != len(longer)+1 {
			t.Errorf("%q: %d %d", longer, at, e)
		}
	}
}

// allForeseen: all texts of at most so many tokens more.
func allForeseen[T any](t *testing.T, parse func(s string) (T, int, api.Errno), r *recognizer, text string, most int) {
	t.Helper()
	foreseen(t, parse, r, text)
	if most == 0 {
		return
	}
	for _, token := range r.tokens() {
		r.add(token)
		allForeseen(t, parse, r, text+sample(token)+" ", most-1)
		r.remove()
	}
}

// walked: some long texts.
func walked[T any](t *testing.T, parse func(s string) (T, int, api.Errno), g *rules, start string, walks int) {
	t.Helper()
	random := rand.New(rand.NewSource(1))
	for range walks {
		r := recognize(g, start)
		text := ""
		for range random.Intn(40) {
			l := r.tokens()
			if len(l) == 0 {
				break
			}
			token := l[random.Intn(len(l))]
			r.add(token)
			text += sample(token) + " "
		}
		foreseen(t, parse, r, text)
	}
}

// symbol of the grammar that a token is.
func symbol(g *rules, token string) string {
	switch {
	case slices.Contains(g.tokens, token):
		return token
	case token[0] == '\'':
		return "string"
	case token[0] <= '9':
		return "number"
	}
	return "name"
}

// eachPart: of these tokens, from none of them on.
func eachPart[T any](t *testing.T, parse func(s string) (T, int, api.Errno), r *recognizer, tokens []string) {
	t.Helper()
	text := ""
	foreseen(t, parse, r, text)
	for _, token := range tokens {
		r.add(symbol(r.g, token))
		text += token + " "
		foreseen(t, parse, r, text)
	}
}

func TestEachPartOfAStatement(t *testing.T) { // P7.1
	g := grammarRules()
	for _, text := range []string{
		"SELECT a AS b , f ( * ) FROM t AS u JOIN v ON a = b WHERE a IS NOT NULL GROUP BY a , b HAVING a ORDER BY a ASC , b DESC , c LIMIT 1 OFFSET 2",
		"SELECT * FROM t JOIN u AS v ON t . a IN ( 1 , 'x' ) ORDER BY a DESC LIMIT 1",
		"INSERT INTO t ( a , b ) VALUES ( 1 , 2 ) , ( 3 )",
		"INSERT INTO t VALUES ( f ( ) )",
		"UPDATE t SET a = b , c = NOT 1 WHERE a",
		"CREATE TABLE t ( a INT PRIMARY KEY UNIQUE NOT NULL , b TEXT , c TEXT UNIQUE )",
		"CREATE INDEX i ON t ( a )",
		"DROP TABLE t",
		"DELETE FROM t WHERE a",
	} {
		eachPart(t, trees.Of, recognize(g, "statement"), strings.Fields(text))
	}
	r := sampler{rand.New(rand.NewSource(5))}
	for range 30 {
		if l := plainly().stmt(r.stmt()); len(l) < 60 && !slices.ContainsFunc(l, func(s string) bool { return len(s) > 18 }) {
			eachPart(t, trees.Of, recognize(g, "statement"), l)
		}
	}
}

func TestWhereNoStatementContinues(t *testing.T) { // P7.1
	g := grammarRules()
	allForeseen(t, trees.Of, recognize(g, "statement"), "", 4)
	walked(t, trees.Of, g, "statement", 250)
}

func TestWhereNoExpressionContinues(t *testing.T) { // P7.3
	g := grammarRules()
	allForeseen(t, trees.Expr, recognize(g, "expr"), "", 3)
	walked(t, trees.Expr, g, "expr", 150)
}

func TestErrorsOfWordsComeFirst(t *testing.T) { // P7.1, P7.3
	for _, c := range []struct {
		s  string
		at int
		e  api.Errno
	}{
		{";", 0, api.ErrForm},
		{"a b 'c", 4, api.ErrForm},
		{") 9223372036854775808", 2, api.ErrOver},
		{"* * '" + strings.Repeat("l", 513) + "'", 4, api.ErrLimit},
		{"from " + strings.Repeat("l", 17), 5, api.ErrForm},
		{strings.Repeat(")", 1025), 1024, api.ErrLimit},
		{strings.Repeat(" ", 4097), 0, api.ErrLimit},
		{"a" + strings.Repeat("+a", 512), 1024, api.ErrLimit},
	} {
		refused(t, trees.Of, c.s, c.at, c.e)
		refused(t, trees.Expr, c.s, c.at, c.e)
	}
	refused(t, trees.Of, "SELECT a FROM t WHERE a = 9223372036854775808", 26, api.ErrOver)
	noForm(t, strings.Repeat("(", 1024), 0)
	refused(t, trees.Expr, strings.Repeat("(", 1024), 1024, api.ErrForm)
	refused(t, trees.Expr, strings.Repeat("-", 1024), 1024, api.ErrForm)
	refused(t, trees.Expr, strings.Repeat("f(", 512), 1024, api.ErrForm)
	refused(t, trees.Expr, strings.Repeat("NOT ", 1024), 4096, api.ErrForm)
	refused(t, trees.Expr, strings.Repeat("a,", 512), 1, api.ErrForm)
}

// deep: texts and trees of that depth.
func deep(depth int) map[string]api.Expr {
	a := col("a")
	m := map[string]api.Expr{}
	wrap := func(front, back, inside string, x api.Expr, around func(x api.Expr) api.Expr) {
		for range depth - 1 {
			x = around(x)
		}
		m[strings.Repeat(front, depth-1)+inside+strings.Repeat(back, depth-1)] = x
	}
	wrap("-", "", "a", a, func(x api.Expr) api.Expr { return one(api.OpNeg, x) })
	wrap("NOT ", "", "a", a, func(x api.Expr) api.Expr { return one(api.OpNot, x) })
	wrap("(", " IS NULL)", "a", a, func(x api.Expr) api.Expr { return one(api.OpIsNull, x) })
	wrap("", " + a", "a", a, func(x api.Expr) api.Expr { return two(api.OpAdd, x, a) })
	wrap("", " AND a", "a", a, func(x api.Expr) api.Expr { return two(api.OpAnd, x, a) })
	wrap("a = (", ")", "1", n(1), func(x api.Expr) api.Expr { return two(api.OpEq, a, x) })
	wrap("a IN (a, ", ", a)", "'x'", s("x"), func(x api.Expr) api.Expr { return in(a, a, x, a) })
	wrap("(", " IN (a))", "NULL", null, func(x api.Expr) api.Expr { return in(x, a) })
	wrap("f(", ")", "f(*)", api.Expr{Kind: api.ExCall, Name: "f", Star: true}, func(x api.Expr) api.Expr { return call("f", x) })
	wrap("f(a, ", ", a)", "f()", call("f"), func(x api.Expr) api.Expr { return call("f", a, x, a) })
	return m
}

func TestDepth(t *testing.T) { // P7.1, P7.2, P7.3
	for depth := 1; depth <= 40; depth++ {
		for text, x := range deep(depth) {
			exprChecks(t, x, depth <= 24)
			if depth <= 24 {
				exprIs(t, text, x)
			} else {
				refused(t, trees.Expr, text, 0, api.ErrLimit)
			}
			for _, y := range placesOf(x) {
				if whole := strings.Join(plainly().stmt(y), " "); depth <= 24 {
					stmtIs(t, whole, y)
				} else {
					refused(t, trees.Of, whole, 0, api.ErrLimit)
				}
			}
		}
	}
	exprIs(t, strings.Repeat("(", 511)+"a"+strings.Repeat(")", 511), col("a"))
	x := col("a")
	for range 23 {
		x = call("f", x)
	}
	exprIs(t, strings.Repeat("f(", 23)+strings.Repeat("(", 400)+"a"+strings.Repeat(")", 423), x)
}

func TestSizes(t *testing.T) { // P7.1, P7.2, P7.3
	a := col("a")
	from := []api.From{{Table: "t"}}
	for _, size := range []int{1, 2, 3, 4, 15, 16, 17, 63, 64, 65, 100} {
		exprs := slices.Repeat([]api.Expr{a}, size)
		names := slices.Repeat([]string{"a"}, size)
		list := strings.Repeat("a,", size-1) + "a"
		is := func(text string, x api.Stmt, most int) {
			t.Helper()
			checks(t, x, size <= most)
			if size <= most {
				stmtIs(t, text, x)
			} else {
				refused(t, trees.Of, text, 0, api.ErrLimit)
				noForm(t, text+" '", len(text)+1)
				noForm(t, text+" from", len(text)+1) // the form comes ahead of the sizes
			}
		}
		is("SELECT "+list+" FROM t", api.Stmt{Kind: api.StSelect, Items: slices.Repeat([]api.Item{{E: a}}, size), From: from, Limit: -1}, 64)
		is("SELECT a FROM t"+strings.Repeat(" JOIN t ON a", size-1), api.Stmt{Kind: api.StSelect, Items: []api.Item{{E: a}}, From: append([]api.From{{Table: "t"}}, slices.Repeat([]api.From{{Table: "t", On: a}}, size-1)...), Limit: -1}, 3)
		is("SELECT a FROM t GROUP BY "+list, api.Stmt{Kind: api.StSelect, Items: []api.Item{{E: a}}, From: from, Group: exprs, Limit: -1}, 64)
		is("SELECT a FROM t ORDER BY "+list, api.Stmt{Kind: api.StSelect, Items: []api.Item{{E: a}}, From: from, Order: slices.Repeat([]api.Order{{E: a}}, size), Limit: -1}, 64)
		is("INSERT INTO t ("+list+") VALUES (a)", api.Stmt{Kind: api.StInsert, Table: "t", Names: names, Rows: [][]api.Expr{{a}}}, 64)
		is("INSERT INTO t VALUES ("+list+")", api.Stmt{Kind: api.StInsert, Table: "t", Rows: [][]api.Expr{exprs}}, 64)
		is("INSERT INTO t VALUES (a), ("+list+")", api.Stmt{Kind: api.StInsert, Table: "t", Rows: [][]api.Expr{{a}, exprs}}, 64)
		is("INSERT INTO t VALUES (a)"+strings.Repeat(", (a)", size-1), api.Stmt{Kind: api.StInsert, Table: "t", Rows: slices.Repeat([][]api.Expr{{a}}, size)}, 64)
		is("UPDATE t SET a = a"+strings.Repeat(", a = a", size-1), api.Stmt{Kind: api.StUpdate, Table: "t", Names: names, Rows: [][]api.Expr{exprs}}, 64)
		is("CREATE TABLE t (a INT"+strings.Repeat(", a INT", size-1)+")", api.Stmt{Kind: api.StCreate, Table: "t", Columns: slices.Repeat([]api.Column{{Name: "a", Type: api.VkInt}}, size)}, 16)
		is("DELETE FROM t WHERE f("+list+")", api.Stmt{Kind: api.StDelete, Table: "t", Where: call("f", exprs...)}, 64)
		is("DELETE FROM t WHERE a IN ("+list+")", api.Stmt{Kind: api.StDelete, Table: "t", Where: in(append(exprs, a)...)}, 64)
		exprChecks(t, one(api.OpNot, in(append(exprs, a)...)), size <= 64)
		exprChecks(t, two(api.OpOr, a, call("f", exprs...)), size <= 64)
	}
}

func TestCheckFields(t *testing.T) { // P7.2: names, values, operators
	a := col("a")
	for name, want := range map[string]bool{"a": true, "z_9": true, "lllllllllllllll9": true, "lllllllllllllllll": false, "": false, "A": false, "1a": false, "_a": false, "select": false, "text": false, "a b": false, "ä": false, "a.b": false, " a": false, "count": true} {
		checks(t, api.Stmt{Kind: api.StDrop, Table: name}, want)
		checks(t, api.Stmt{Kind: api.StIndex, Name: name, Table: "t", Names: []string{"a"}}, want)
		checks(t, api.Stmt{Kind: api.StIndex, Name: "i", Table: "t", Names: []string{name}}, want)
		checks(t, api.Stmt{Kind: api.StCreate, Table: "t", Columns: []api.Column{{Name: name, Type: api.VkText}}}, want)
		checks(t, api.Stmt{Kind: api.StInsert, Table: "t", Names: []string{"a", name}, Rows: [][]api.Expr{{a}}}, want)
		checks(t, api.Stmt{Kind: api.StUpdate, Table: "t", Names: []string{name}, Rows: [][]api.Expr{{a}}}, want)
		exprChecks(t, col(name), want)
		exprChecks(t, of("t", name), want)
		exprChecks(t, of(name, "a"), want || name == "")
		exprChecks(t, call(name), want)
		for _, x := range []api.Stmt{
			{Kind: api.StSelect, Items: []api.Item{{E: a, As: name}}, From: []api.From{{Table: "t"}}, Limit: -1},
			{Kind: api.StSelect, Items: []api.Item{{E: a}}, From: []api.From{{Table: "t", As: name}}, Limit: -1},
		} {
			checks(t, x, want || name == "")
		}
		checks(t, api.Stmt{Kind: api.StSelect, Items: []api.Item{{E: a}}, From: []api.From{{Table: name}}, Limit: -1}, want)
	}
	for _, i := range []int64{math.MinInt64, -2, -1, 0, 1, math.MaxInt64} {
		exprChecks(t, n(i), i >= 0)
		exprChecks(t, two(api.OpAdd, a, n(i)), i >= 0)
	}
	for size := 500; size < 520; size++ {
		exprChecks(t, s(strings.Repeat("\xff", size)), size <= 512)
	}
	for op := range 256 {
		exprChecks(t, one(api.Op(op), a), op >= int(api.OpNeg) && op <= int(api.OpNotNull))
		exprChecks(t, two(api.Op(op), a, a), op >= int(api.OpAdd) && op <= int(api.OpOr))
		exprChecks(t, in(a, api.Expr{Kind: api.ExLit, Op: api.Op(op)}), op == 0)
		exprChecks(t, call("f", api.Expr{Kind: api.ExprKind(op), Name: "a"}), op == int(api.ExCol) || op == int(api.ExCall))
		checks(t, api.Stmt{Kind: api.StmtKind(op), Table: "t"}, op == int(api.StDrop) || op == int(api.StDelete))
		checks(t, api.Stmt{Kind: api.StCreate, Table: "t", Columns: []api.Column{{Name: "a", Type: api.ValueKind(op)}}}, op == 1 || op == 2)
		exprChecks(t, api.Expr{Kind: api.ExLit, Value: api.Value{Kind: api.ValueKind(op)}}, op < 3)
		exprChecks(t, api.Expr{Kind: api.ExLit, Value: api.Value{Kind: api.ValueKind(op), I: 1}}, op == 1)
		exprChecks(t, api.Expr{Kind: api.ExLit, Value: api.Value{Kind: api.ValueKind(op), S: "x"}}, op == 2)
	}
	for limit := int64(-3); limit < 3; limit++ {
		for skip := int64(-3); skip < 3; skip++ {
			x := api.Stmt{Kind: api.StSelect, Items: []api.Item{{Star: true}}, From: []api.From{{Table: "t"}}, Limit: limit, Skip: skip}
			checks(t, x, limit >= 0 && skip >= 0 || limit == -1 && skip == 0)
		}
	}
}

// leaves: what a statement has that can be set, in all its depth, and its lists.
func leaves(v reflect.Value, visit func(v reflect.Value)) {
	switch v.Kind() {
	case reflect.Struct:
		for i := range v.NumField() {
			leaves(v.Field(i), visit)
		}
	case reflect.Slice:
		for i := range v.Len() {
			leaves(v.Index(i), visit)
		}
		visit(v)
	default:
		visit(v)
	}
}

// changed: another value of a leaf.
func (r sampler) changed(v reflect.Value) {
	switch v.Kind() {
	case reflect.Bool:
		v.SetBool(!v.Bool())
	case reflect.Int64:
		v.SetInt(sampleOf(r, v.Int()+1, v.Int()-1, -v.Int(), 0, -1, 1, math.MinInt64))
	case reflect.Uint8:
		v.SetUint(uint64(uint8(sampleOf(r, v.Uint()+1, v.Uint()-1, 0, 1, uint64(r.Intn(256))))))
	case reflect.String:
		v.SetString(sampleOf(r, "", "a", "b", "A", "null", "text", "1", "a . b", "a AS b", "a , b", "*", "x y", "'", "ö", strings.Repeat("l", 17)))
	case reflect.Slice:
		switch more := reflect.Zero(v.Type().Elem()); {
		case r.Intn(2) == 0:
			v.Set(reflect.Append(v.Slice3(0, v.Len(), v.Len()), more))
		case v.Len() > 1 && r.Intn(2) == 0:
			v.Set(reflect.Append(v.Slice3(0, v.Len(), v.Len()), v.Index(0)))
		case v.Len() > 1:
			v.Set(v.Slice(0, v.Len()-1))
		default:
			v.SetZero()
		}
	}
}

// spoiled: some of its fields are others.
func (r sampler) spoiled(x api.Stmt) api.Stmt {
	for range 1 + r.Intn(3) {
		var l []reflect.Value
		leaves(reflect.ValueOf(&x).Elem(), func(v reflect.Value) { l = append(l, v) })
		r.changed(l[r.Intn(len(l))])
	}
	return x
}

func TestCheckOfAnyStatement(t *testing.T) { // P7.2: it may be if what is written of it is read as it
	r := sampler{rand.New(rand.NewSource(2))}
	may := 0
	for range 8000 {
		x := r.spoiled(r.stmt())
		text := strings.Join(plainly().stmt(x), " ")
		if len(text) > 4000 {
			continue
		}
		y, _, e := trees.Of(text)
		want := e == api.OK && reflect.DeepEqual(x, y)
		if want {
			may++
		}
		before := fmt.Sprintf("%#v", x)
		checks(t, x, want)
		if after := fmt.Sprintf("%#v", x); after != before {
			t.Errorf("%s is now %s", before, after)
		}
	}
	if may < 300 || may > 7700 {
		t.Errorf("%d may be", may)
	}
}

func TestEachFieldIsOfItsKinds(t *testing.T) { // P7.2: a field that a kind has not is zero
	a := col("a")
	fields := map[string]func(x *api.Stmt){
		"Name":    func(x *api.Stmt) { x.Name = "n" },
		"Table":   func(x *api.Stmt) { x.Table = "t" },
		"Columns": func(x *api.Stmt) { x.Columns = []api.Column{{Name: "a", Type: api.VkInt}} },
		"Names":   func(x *api.Stmt) { x.Names = []string{"a"} },
		"Rows":    func(x *api.Stmt) { x.Rows = [][]api.Expr{{a}} },
		"Items":   func(x *api.Stmt) { x.Items = []api.Item{{E: a}} },
		"From":    func(x *api.Stmt) { x.From = []api.From{{Table: "t"}} },
		"Where":   func(x *api.Stmt) { x.Where = a },
		"Group":   func(x *api.Stmt) { x.Group = []api.Expr{a} },
		"Having":  func(x *api.Stmt) { x.Having = a },
		"Order":   func(x *api.Stmt) { x.Order = []api.Order{{E: a}} },
		"Limit":   func(x *api.Stmt) { x.Limit = 1 },
		"Skip":    func(x *api.Stmt) { x.Skip = 1 },
	}
	needs := []string{"", "Table Columns", "Table", "Name Table Names", "Table Rows", "Table Names Rows", "Table", "Items From"}
	takes := []string{"", "", "", "", "Names", "Where", "", ""}
	takes[api.StDelete], takes[api.StSelect] = "Where", "Where Group Order Limit Skip"
	for kind := api.StCreate; kind <= api.StSelect; kind++ {
		x := api.Stmt{Kind: kind}
		has := strings.Fields(needs[kind])
		for _, f := range has {
			checks(t, x, false)
			fields[f](&x)
		}
		checks(t, x, true)
		for f, set := range fields {
			y := x
			set(&y)
			checks(t, y, slices.Contains(has, f) || slices.Contains(strings.Fields(takes[kind]), f))
		}
	}
	for _, f := range []func(x *api.Expr){
		func(x *api.Expr) { x.Op = api.OpNeg }, func(x *api.Expr) { x.Table = "t" }, func(x *api.Expr) { x.Name = "a" },
		func(x *api.Expr) { x.Value.Kind = 1 }, func(x *api.Expr) { x.Value.I = 1 }, func(x *api.Expr) { x.Value.S = "x" },
		func(x *api.Expr) { x.Star = true }, func(x *api.Expr) { x.L = []api.Expr{a} },
	} {
		x := api.Expr{}
		f(&x)
		exprChecks(t, x, false)
	}
	for _, x := range []api.Expr{{L: []api.Expr{}}, {}} { // none: only where it may be missing
		checks(t, api.Stmt{Kind: api.StDelete, Table: "t", Where: x}, true)
		checks(t, api.Stmt{Kind: api.StUpdate, Table: "t", Names: []string{"a"}, Rows: [][]api.Expr{{x}}}, false)
		exprChecks(t, call("f", x), false)
	}
}

func TestSelections(t *testing.T) { // P7.2
	a := col("a")
	x := func(items []api.Item, from []api.From) api.Stmt {
		return api.Stmt{Kind: api.StSelect, Items: items, From: from, Limit: -1}
	}
	items, from := []api.Item{{E: a}}, []api.From{{Table: "t"}}
	star := api.Item{Star: true}
	checks(t, x([]api.Item{star}, from), true)
	for _, l := range [][]api.Item{nil, {}, {{}}, {star, star}, {star, {E: a}}, {{E: a}, star}, {{Star: true, E: a}}, {{Star: true, As: "a"}}, {{As: "a"}}} {
		checks(t, x(l, from), false)
	}
	for _, l := range [][]api.From{nil, {}, {{}}, {{Table: "t", On: a}}, {{Table: "t"}, {Table: "u"}}, {{Table: "t", On: a}, {Table: "u"}}, {{Table: "t", On: a}, {Table: "u", On: a}}, {{Table: "t"}, {On: a}}, {{Table: "t"}, {Table: "u", On: a}, {Table: "v"}}} {
		checks(t, x(items, l), false)
	}
	checks(t, x(items, []api.From{{Table: "t"}, {Table: "t", On: a}, {Table: "t", As: "t", On: a}}), true)
	y := x(items, from)
	y.Having = a
	checks(t, y, false)
	y.Group = []api.Expr{a}
	checks(t, y, true)
	y.Order = []api.Order{{}}
	checks(t, y, false)
	for _, rows := range [][][]api.Expr{nil, {{}}, {{a}}, {{a, a}, {a, a}}, {{a, a, a}}, {nil, {a, a}}} {
		checks(t, api.Stmt{Kind: api.StUpdate, Table: "t", Names: []string{"a", "b"}, Rows: rows}, false)
	}
	for _, rows := range [][][]api.Expr{nil, {}, {{}}, {{a}, {}}, {nil}} {
		checks(t, api.Stmt{Kind: api.StInsert, Table: "t", Rows: rows}, false)
	}
	checks(t, api.Stmt{Kind: api.StIndex, Name: "i", Table: "t", Names: []string{"a", "b"}}, false)
}

func TestCheckOfGreatTrees(t *testing.T) { // P7.2: lists that are handed in often
	x := col("a")
	for range 19 {
		x = two(api.OpAdd, x, x)
	}
	checks(t, api.Stmt{Kind: api.StDelete, Table: "t", Where: x}, true)
	round := one(api.OpNot, col("a"))
	round.L[0] = round
	checks(t, api.Stmt{Kind: api.StDelete, Table: "t", Where: round}, false)
	for _, l := range [][]api.Expr{make([]api.Expr, 1<<16), slices.Repeat([]api.Expr{n(1)}, 1<<16)} {
		exprChecks(t, in(l...), false)
		exprChecks(t, call("f", l...), false)
	}
}

func TestWhatIsWrittenIsRead(t *testing.T) { // P7.1, P7.3, P7.4
	r := sampler{rand.New(rand.NewSource(3))}
	more := writer{func() bool { return r.Intn(4) == 0 }}
	for range 5000 {
		x := r.stmt()
		for _, w := range []writer{plainly(), more} {
			l := w.stmt(x)
			if text := r.text(l); len(text) <= 4096 && len(l) <= 1024 {
				stmtIs(t, text, x)
			}
		}
		checks(t, x, true)
		y := r.expr(1 + r.Intn(5))
		for _, w := range []writer{plainly(), more} {
			l := w.whole(y)
			if text := r.text(l); len(text) <= 4096 && len(l) <= 1024 {
				exprIs(t, text, y)
			}
		}
		exprChecks(t, y, true)
	}
}

// piece of memory.
type piece struct{ from, to uintptr }

// memory of a tree: that of each list, with its spare capacity, and that of each string.
func memory(v reflect.Value) []piece {
	var l []piece
	leaves(v, func(v reflect.Value) {
		switch v.Kind() {
		case reflect.Slice:
			at := v.Pointer()
			l = append(l, piece{at, at + uintptr(v.Cap())*v.Type().Elem().Size()})
		case reflect.String:
			at := uintptr(unsafe.Pointer(unsafe.StringData(v.String())))
			l = append(l, piece{at, at + uintptr(v.Len())})
		}
	})
	return slices.DeleteFunc(l, func(p piece) bool { return p.from == p.to })
}

// apart: do no two pieces overlap?
func apart(l []piece) bool {
	slices.SortFunc(l, func(a, b piece) int { return int(a.from) - int(b.from) })
	for i := 1; i < len(l); i++ {
		if l[i].from < l[i-1].to {
			return false
		}
	}
	return true
}

func TestResultsAreNew(t *testing.T) { // P7.1, P7.3
	r := sampler{rand.New(rand.NewSource(4))}
	for range 500 {
		text := r.text(plainly().stmt(r.stmt()))
		first, _, e := trees.Of(text)
		if e != api.OK {
			continue
		}
		second, _, _ := trees.Of(text)
		at := uintptr(unsafe.Pointer(unsafe.StringData(text)))
		l := append(memory(reflect.ValueOf(first)), memory(reflect.ValueOf(second))...)
		if !apart(append(l, piece{at, at + uintptr(len(text))})) {
			t.Errorf("%q: its lists share memory", text)
		}
	}
}
