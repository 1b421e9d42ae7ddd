package prints

import (
	"slices"

	"folkmoot/api"
	"folkmoot/values"
)

// rank of a category: each may stand where one of a lower rank is required.
type rank int

const (
	rankExpr rank = iota
	rankAnd
	rankNot
	rankCompare
	rankSum
	rankProduct
	rankMinus
	rankPrimary
)

// category of expressions.
type category struct {
	has         func(x api.Expr) bool // is it that of an expression which has none of those ahead?
	left, right rank                  // what it requires of its operands: the first one and the second one
}

// categories by their ranks.
func categories() []category {
	isTest := doing(api.OpEq, api.OpNe, api.OpLt, api.OpLe, api.OpGt, api.OpGe, api.OpIsNull, api.OpNotNull)
	return []category{
		rankExpr: {has: doing(api.OpOr), left: rankExpr, right: rankAnd},
		rankAnd:  {has: doing(api.OpAnd), left: rankAnd, right: rankNot},
		rankNot:  {has: doing(api.OpNot), left: rankNot},
		rankCompare: {
			has:  func(x api.Expr) bool { return x.Kind == api.ExIn || isTest(x) },
			left: rankSum, right: rankSum,
		},
		rankSum:     {has: doing(api.OpAdd, api.OpSub, api.OpJoin), left: rankSum, right: rankProduct},
		rankProduct: {has: doing(api.OpMul, api.OpDiv, api.OpMod), left: rankProduct, right: rankMinus},
		rankMinus:   {has: doing(api.OpNeg), left: rankMinus},
		rankPrimary: {has: func(api.Expr) bool { return true }},
	}
}

// doing: tells whether an expression has one of these operators.
func doing(ops ...api.Op) func(x api.Expr) bool {
	return func(x api.Expr) bool { return slices.Contains(ops, x.Op) }
}

// symbols of the binary operators.
var symbols = [...]string{
	api.OpAdd: "+", api.OpSub: "-", api.OpJoin: "||",
	api.OpMul: "*", api.OpDiv: "/", api.OpMod: "%",
	api.OpEq: "=", api.OpNe: "<>", api.OpLt: "<", api.OpLe: "<=", api.OpGt: ">", api.OpGe: ">=",
	api.OpAnd: "AND", api.OpOr: "OR",
}

// whole: an expression where any may stand.
func (p *printer) whole(x api.Expr) { p.expr(x, rankExpr) }

// expr where that rank is required. Behind a text that is too long it is not gone through: its lists can share their memory, and so stand for very much.
func (p *printer) expr(x api.Expr, required rank) {
	if p.over() {
		return
	}
	own := slices.IndexFunc(p.categories, func(c category) bool { return c.has(x) })
	if rank(own) >= required {
		p.bare(x, p.categories[own])
		return
	}
	p.put("(")
	p.whole(x)
	p.put(")")
}

// bare: an expression of that category, without parentheses around it.
func (p *printer) bare(x api.Expr, own category) {
	switch x.Kind {
	case api.ExLit:
		p.put(values.Text(x.Value))
	case api.ExCol:
		p.column(x)
	case api.ExOne:
		p.one(x.Op, x.L[0], own)
	case api.ExTwo:
		p.expr(x.L[0], own.left)
		p.put(symbols[x.Op])
		p.expr(x.L[1], own.right)
	case api.ExIn:
		p.expr(x.L[0], own.left)
		p.put("IN")
		p.row(x.L[1:])
	case api.ExCall:
		p.call(x)
	}
}

func (p *printer) column(x api.Expr) {
	if x.Table != "" {
		p.put(x.Table, ".")
	}
	p.put(x.Name)
}

// one operand and its operator, ahead of it or behind it.
func (p *printer) one(op api.Op, x api.Expr, own category) {
	switch op {
	case api.OpNeg:
		p.put("-")
	case api.OpNot:
		p.put("NOT")
	}
	p.expr(x, own.left)
	switch op {
	case api.OpIsNull:
		p.put("IS", "NULL")
	case api.OpNotNull:
		p.put("IS", "NOT", "NULL")
	}
}

func (p *printer) call(x api.Expr) {
	p.put(x.Name)
	if x.Star {
		p.put("(", "*", ")")
		return
	}
	p.row(x.L)
}

// row: expressions in parentheses.
func (p *printer) row(l []api.Expr) { enclosed(p, l, p.whole) }
