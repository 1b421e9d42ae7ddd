package trees_test

import (
	"math/rand"
	"strconv"
	"strings"

	"folkmoot/api"
)

// Categories of expressions, from the one that binds least on.
const (
	catExpr = iota
	catAnd
	catNot
	catCompare
	catSum
	catProduct
	catMinus
	catPrimary
)

// place of a binary operator in a text: its symbol, its own category, and those that its operands need.
type place struct {
	symbol           string
	own, left, right int
}

var places = map[api.Op]place{
	api.OpOr:   {"OR", catExpr, catExpr, catAnd},
	api.OpAnd:  {"AND", catAnd, catAnd, catNot},
	api.OpEq:   {"=", catCompare, catSum, catSum},
	api.OpNe:   {"<>", catCompare, catSum, catSum},
	api.OpLt:   {"<", catCompare, catSum, catSum},
	api.OpLe:   {"<=", catCompare, catSum, catSum},
	api.OpGt:   {">", catCompare, catSum, catSum},
	api.OpGe:   {">=", catCompare, catSum, catSum},
	api.OpAdd:  {"+", catSum, catSum, catProduct},
	api.OpSub:  {"-", catSum, catSum, catProduct},
	api.OpJoin: {"||", catSum, catSum, catProduct},
	api.OpMul:  {"*", catProduct, catProduct, catMinus},
	api.OpDiv:  {"/", catProduct, catProduct, catMinus},
	api.OpMod:  {"%", catProduct, catProduct, catMinus},
}

// none: the token of what no text has.
const none = ";"

// writer of statements: of any struct, whatever its fields are. More parentheses than it needs it sets where more says so.
type writer struct{ more func() bool }

func plainly() writer { return writer{func() bool { return false }} }

// expr as tokens, where that category is needed.
func (w writer) expr(x api.Expr, needed int) []string {
	l, own := w.bare(x)
	for own < needed || w.more() {
		l, own = inParens(l), catPrimary
	}
	return l
}

func inParens(l []string) []string { return append(append([]string{"("}, l...), ")") }

// operand of an expression, where that category is needed.
func (w writer) operand(x api.Expr, i, needed int) []string {
	if i >= len(x.L) {
		return []string{none}
	}
	return w.expr(x.L[i], needed)
}

// bare tokens of an expression, and their category.
func (w writer) bare(x api.Expr) ([]string, int) {
	switch x.Kind {
	case api.ExLit:
		return []string{literal(x.Value)}, catPrimary
	case api.ExCol:
		if x.Table != "" {
			return []string{x.Table, ".", x.Name}, catPrimary
		}
		return []string{x.Name}, catPrimary
	case api.ExOne:
		switch x.Op {
		case api.OpNeg:
			return append([]string{"-"}, w.operand(x, 0, catMinus)...), catMinus
		case api.OpNot:
			return append([]string{"NOT"}, w.operand(x, 0, catNot)...), catNot
		case api.OpIsNull:
			return append(w.operand(x, 0, catSum), "IS", "NULL"), catCompare
		case api.OpNotNull:
			return append(w.operand(x, 0, catSum), "IS", "NOT", "NULL"), catCompare
		}
	case api.ExTwo:
		if p, ok := places[x.Op]; ok {
			l := append(w.operand(x, 0, p.left), p.symbol)
			return append(l, w.operand(x, 1, p.right)...), p.own
		}
	case api.ExIn:
		if len(x.L) > 0 {
			return append(append(w.operand(x, 0, catSum), "IN"), w.row(x.L[1:])...), catCompare
		}
	case api.ExCall:
		if x.Star {
			return []string{x.Name, "(", "*", ")"}, catPrimary
		}
		return append([]string{x.Name}, w.row(x.L)...), catPrimary
	}
	return []string{none}, catPrimary
}

func literal(v api.Value) string {
	switch v.Kind {
	case api.VkNull:
		return "NULL"
	case api.VkInt:
		return strconv.FormatInt(v.I, 10)
	case api.VkText:
		return "'" + strings.ReplaceAll(v.S, "'", "''") + "'"
	}
	return none
}

// joined: the tokens of a list's elements, with commas.
func joined[T any](l []T, one func(T) []string) []string {
	var tokens []string
	for i, x := range l {
		if i > 0 {
			tokens = append(tokens, ",")
		}
		tokens = append(tokens, one(x)...)
	}
	return tokens
}

func itself(s string) []string { return []string{s} }

func (w writer) whole(x api.Expr) []string { return w.expr(x, catExpr) }

func (w writer) row(l []api.Expr) []string { return inParens(joined(l, w.whole)) }

// after a keyword, unless it is not there.
func (w writer) after(keyword string, x api.Expr) []string {
	if x.Kind == api.ExNone {
		return nil
	}
	return append([]string{keyword}, w.whole(x)...)
}

func alias(s string) []string {
	if s == "" {
		return nil
	}
	return []string{"AS", s}
}

func (w writer) item(x api.Item) []string {
	if x.Star {
		return []string{"*"}
	}
	return append(w.whole(x.E), alias(x.As)...)
}

func (w writer) order(x api.Order) []string {
	l := w.whole(x.E)
	switch {
	case x.Down:
		l = append(l, "DESC")
	case w.more():
		l = append(l, "ASC")
	}
	return l
}

func (w writer) from(l []api.From) []string {
	var tokens []string
	for i, x := range l {
		if i > 0 {
			tokens = append(tokens, "JOIN")
		}
		tokens = append(append(tokens, x.Table), alias(x.As)...)
		tokens = append(tokens, w.after("ON", x.On)...)
	}
	return tokens
}

func column(c api.Column) []string {
	l := []string{c.Name}
	switch c.Type {
	case api.VkInt:
		l = append(l, "INT")
	case api.VkText:
		l = append(l, "TEXT")
	}
	if c.Primary {
		l = append(l, "PRIMARY", "KEY")
	}
	if c.Unique {
		l = append(l, "UNIQUE")
	}
	if c.NotNull {
		l = append(l, "NOT", "NULL")
	}
	return l
}

func (w writer) selection(x api.Stmt) []string {
	l := append([]string{"SELECT"}, joined(x.Items, w.item)...)
	l = append(append(l, "FROM"), w.from(x.From)...)
	l = append(l, w.after("WHERE", x.Where)...)
	if len(x.Group) > 0 {
		l = append(append(l, "GROUP", "BY"), joined(x.Group, w.whole)...)
	}
	l = append(l, w.after("HAVING", x.Having)...)
	if len(x.Order) > 0 {
		l = append(append(l, "ORDER", "BY"), joined(x.Order, w.order)...)
	}
	if x.Limit >= 0 {
		l = append(l, "LIMIT", strconv.FormatInt(x.Limit, 10))
		if x.Skip != 0 || w.more() {
			l = append(l, "OFFSET", strconv.FormatInt(x.Skip, 10))
		}
	}
	return l
}

func (w writer) update(x api.Stmt) []string {
	l := []string{"UPDATE", x.Table, "SET"}
	for i, name := range x.Names {
		if i > 0 {
			l = append(l, ",")
		}
		l = append(l, name, "=")
		if len(x.Rows) > 0 && i < len(x.Rows[0]) {
			l = append(l, w.whole(x.Rows[0][i])...)
		}
	}
	return append(l, w.after("WHERE", x.Where)...)
}

// stmt as tokens.
func (w writer) stmt(x api.Stmt) []string {
	switch x.Kind {
	case api.StCreate:
		return append([]string{"CREATE", "TABLE", x.Table}, inParens(joined(x.Columns, column))...)
	case api.StDrop:
		return []string{"DROP", "TABLE", x.Table}
	case api.StIndex:
		return append([]string{"CREATE", "INDEX", x.Name, "ON", x.Table}, inParens(joined(x.Names, itself))...)
	case api.StInsert:
		l := []string{"INSERT", "INTO", x.Table}
		if len(x.Names) > 0 {
			l = append(l, inParens(joined(x.Names, itself))...)
		}
		return append(append(l, "VALUES"), joined(x.Rows, w.row)...)
	case api.StUpdate:
		return w.update(x)
	case api.StDelete:
		return append([]string{"DELETE", "FROM", x.Table}, w.after("WHERE", x.Where)...)
	case api.StSelect:
		return w.selection(x)
	}
	return []string{none}
}

// sampler of valid statements.
type sampler struct{ *rand.Rand }

func sampleOf[T any](r sampler, l ...T) T { return l[r.Intn(len(l))] }

func (r sampler) name() string {
	return sampleOf(r, "a", "b", "c1", "t", "u", "count", "sum", "order_", "x_9", "selects", "lllllllllllllll9")
}

func (r sampler) alias() string {
	if r.Intn(2) == 0 {
		return ""
	}
	return r.name()
}

func (r sampler) value() api.Value {
	switch r.Intn(4) {
	case 0:
		return api.Value{}
	case 1:
		return api.Value{Kind: api.VkText, S: sampleOf(r, "", "a", "it's", "'", "+", "AND", "null", "\x00\xff\n", "ö", ")")}
	}
	return api.Value{Kind: api.VkInt, I: r.Int63() >> r.Intn(63)}
}

// some: so many of these, at least.
func some[T any](r sampler, least int, one func() T) []T {
	var l []T
	for len(l) < least || r.Intn(2) == 0 {
		l = append(l, one())
	}
	return l
}

// expr of at most that depth.
func (r sampler) expr(depth int) api.Expr {
	operand := func() api.Expr { return r.expr(depth - 1) }
	kind := r.Intn(12)
	switch {
	case depth <= 1 && kind > 2, kind < 2:
		return api.Expr{Kind: api.ExLit, Value: r.value()}
	case kind < 3:
		return api.Expr{Kind: api.ExCol, Table: r.alias(), Name: r.name()}
	case kind < 5:
		return api.Expr{Kind: api.ExOne, Op: api.OpNeg + api.Op(r.Intn(4)), L: []api.Expr{operand()}}
	case kind < 9:
		return api.Expr{Kind: api.ExTwo, Op: api.OpAdd + api.Op(r.Intn(14)), L: []api.Expr{operand(), operand()}}
	case kind < 10:
		return api.Expr{Kind: api.ExIn, L: some(r, 2, operand)}
	case kind < 11:
		return api.Expr{Kind: api.ExCall, Name: r.name(), Star: true}
	}
	return api.Expr{Kind: api.ExCall, Name: r.name(), L: some(r, 0, operand)}
}

func (r sampler) small() api.Expr { return r.expr(1 + r.Intn(4)) }

// optional: it, or none.
func (r sampler) optional() api.Expr {
	if r.Intn(2) == 0 {
		return api.Expr{}
	}
	return r.small()
}

func (r sampler) column() api.Column {
	return api.Column{Name: r.name(), Type: sampleOf(r, api.VkInt, api.VkText), Primary: r.Intn(2) == 0, Unique: r.Intn(2) == 0, NotNull: r.Intn(2) == 0}
}

func (r sampler) row() []api.Expr { return some(r, 1, r.small) }

func (r sampler) selection() api.Stmt {
	x := api.Stmt{Kind: api.StSelect, Where: r.optional(), Limit: -1}
	x.Items = []api.Item{{Star: true}}
	if r.Intn(4) > 0 {
		x.Items = some(r, 1, func() api.Item { return api.Item{E: r.small(), As: r.alias()} })
	}
	for i := range 1 + r.Intn(3) {
		x.From = append(x.From, api.From{Table: r.name(), As: r.alias()})
		if i > 0 {
			x.From[i].On = r.small()
		}
	}
	if r.Intn(2) == 0 {
		x.Group, x.Having = some(r, 1, r.small), r.optional()
	}
	x.Order = some(r, 0, func() api.Order { return api.Order{E: r.small(), Down: r.Intn(2) == 0} })
	if r.Intn(2) == 0 {
		x.Limit, x.Skip = r.Int63()>>r.Intn(63), r.Int63()>>r.Intn(63)
	}
	return x
}

func (r sampler) stmt() api.Stmt {
	x := api.Stmt{Kind: api.StCreate + api.StmtKind(r.Intn(7))}
	if x.Kind == api.StSelect {
		return r.selection()
	}
	x.Table = r.name()
	switch x.Kind {
	case api.StCreate:
		x.Columns = some(r, 1, r.column)
	case api.StIndex:
		x.Name, x.Names = r.name(), []string{r.name()}
	case api.StInsert:
		x.Names, x.Rows = some(r, 0, r.name), some(r, 1, r.row)
	case api.StUpdate:
		x.Names, x.Where = some(r, 1, r.name), r.optional()
		x.Rows = [][]api.Expr{nil}
		for range x.Names {
			x.Rows[0] = append(x.Rows[0], r.small())
		}
	case api.StDelete:
		x.Where = r.optional()
	}
	return x
}

// blank between two tokens.
func (r sampler) blank() string { return sampleOf(r, " ", " ", "\n", "\t\r", "   ") }

// mixed: a keyword or a name in letters of both sizes.
func (r sampler) mixed(token string) string {
	if strings.HasPrefix(token, "'") {
		return token
	}
	b := []byte(token)
	for i := range b {
		if r.Intn(2) == 0 {
			b[i] = strings.ToLower(token)[i]
		} else {
			b[i] = strings.ToUpper(token)[i]
		}
	}
	return string(b)
}

// text of these tokens, in one of many ways.
func (r sampler) text(tokens []string) string {
	s := ""
	for i, token := range tokens {
		if i > 0 {
			s += r.blank()
		}
		s += r.mixed(token)
	}
	return s
}
