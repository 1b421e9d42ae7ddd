package trees

import "folkmoot/api"

// level of a binary operator: those of a higher one bind more tightly.
type level int

const (
	_ level = iota // of what is no binary operator
	levelOr
	levelAnd
	levelCompare
	levelSum
	levelProduct
)

// operator with two operands.
type operator struct {
	op    api.Op
	level level
}

// operators by their symbols.
func operators() map[string]operator {
	return map[string]operator{
		"or":  {api.OpOr, levelOr},
		"and": {api.OpAnd, levelAnd},
		"=":   {api.OpEq, levelCompare},
		"<>":  {api.OpNe, levelCompare},
		"<":   {api.OpLt, levelCompare},
		"<=":  {api.OpLe, levelCompare},
		">":   {api.OpGt, levelCompare},
		">=":  {api.OpGe, levelCompare},
		"+":   {api.OpAdd, levelSum},
		"-":   {api.OpSub, levelSum},
		"||":  {api.OpJoin, levelSum},
		"*":   {api.OpMul, levelProduct},
		"/":   {api.OpDiv, levelProduct},
		"%":   {api.OpMod, levelProduct},
	}
}

func literal(v api.Value) api.Expr { return api.Expr{Kind: api.ExLit, Value: v} }

func unary(op api.Op, x api.Expr) api.Expr {
	return api.Expr{Kind: api.ExOne, Op: op, L: []api.Expr{x}}
}

func binary(op api.Op, x, y api.Expr) api.Expr {
	return api.Expr{Kind: api.ExTwo, Op: op, L: []api.Expr{x, y}}
}

// operator of that level that is next; OpNone if there is none.
func (r *reader) operator(at level) api.Op {
	w := r.next()
	o := r.operators[w.S]
	if w.Kind == api.WoText || o.level != at || !r.take(w.S) {
		return api.OpNone
	}
	return o.op
}

// chain of operands, joined from the left by operators of one level.
func (r *reader) chain(at level, operand func() api.Expr) api.Expr {
	x := operand()
	for op := r.operator(at); op != api.OpNone; op = r.operator(at) {
		x = binary(op, x, operand())
	}
	return x
}

func (r *reader) expr() api.Expr { return r.chain(levelOr, r.and) }

func (r *reader) and() api.Expr { return r.chain(levelAnd, r.not) }

func (r *reader) not() api.Expr {
	if r.take("not") {
		return unary(api.OpNot, r.not())
	}
	return r.compare()
}

// compare: at most one comparison, as none of them can be an operand of another without parentheses.
func (r *reader) compare() api.Expr {
	x := r.sum()
	switch {
	case r.take("is"):
		op := api.OpIsNull
		if r.take("not") {
			op = api.OpNotNull
		}
		r.need("null")
		return unary(op, x)
	case r.take("in"):
		return api.Expr{Kind: api.ExIn, L: append([]api.Expr{x}, enclosed(r, r.expr)...)}
	}
	if op := r.operator(levelCompare); op != api.OpNone {
		return binary(op, x, r.sum())
	}
	return x
}

func (r *reader) sum() api.Expr { return r.chain(levelSum, r.product) }

func (r *reader) product() api.Expr { return r.chain(levelProduct, r.minus) }

func (r *reader) minus() api.Expr {
	if r.take("-") {
		return unary(api.OpNeg, r.minus())
	}
	return r.primary()
}

func (r *reader) primary() api.Expr {
	switch w := r.next(); {
	case w.Kind == api.WoInt:
		r.step()
		return literal(api.Value{Kind: api.VkInt, I: w.I})
	case w.Kind == api.WoText:
		r.step()
		return literal(api.Value{Kind: api.VkText, S: w.S})
	case r.take("null"):
		return literal(api.Value{})
	case r.take("("):
		x := r.expr()
		r.need(")")
		return x
	}
	return r.named()
}

// named: a column or a call.
func (r *reader) named() api.Expr {
	name := r.name()
	switch {
	case r.take("."):
		return api.Expr{Kind: api.ExCol, Table: name, Name: r.name()}
	case r.take("("):
		return r.call(name)
	}
	return api.Expr{Kind: api.ExCol, Name: name}
}

// call of a function: its arguments, behind the parenthesis that opens them.
func (r *reader) call(name string) api.Expr {
	x := api.Expr{Kind: api.ExCall, Name: name}
	if r.take(")") {
		return x
	}
	x.Star = r.take("*")
	if !x.Star {
		x.L = list(r, r.expr)
	}
	r.need(")")
	return x
}
