package scopes

import (
	"math"

	"folkmoot/api"
)

// function: how many arguments it takes.
type function struct {
	least, most int
	star        bool // it takes Star as well, and then none
	aggregate   bool
}

// functions by their names.
func functions() map[string]function {
	return map[string]function{
		"count":    {least: 1, most: 1, aggregate: true, star: true},
		"sum":      {least: 1, most: 1, aggregate: true},
		"min":      {least: 1, most: 1, aggregate: true},
		"max":      {least: 1, most: 1, aggregate: true},
		"abs":      {least: 1, most: 1},
		"length":   {least: 1, most: 1},
		"upper":    {least: 1, most: 1},
		"lower":    {least: 1, most: 1},
		"coalesce": {least: 1, most: math.MaxInt},
		"random":   {},
		"now":      {},
	}
}

// takes: are the arguments of a call such as the function takes?
func (f function) takes(x api.Expr) bool {
	if x.Star {
		return f.star && len(x.L) == 0
	}
	return len(x.L) >= f.least && len(x.L) <= f.most
}

// checker of an expression's parts.
type checker struct {
	scope     *Scope
	functions map[string]function
}

// expr: the first error in an expression, where aggregate functions may be or not.
func (c *checker) expr(x api.Expr, groups bool) api.Errno {
	if e := c.alone(x, groups); e != api.OK {
		return e
	}
	if x.Kind == api.ExCall && c.functions[x.Name].aggregate {
		groups = false // none may be in the arguments of another one
	}
	for _, y := range x.L {
		if e := c.expr(y, groups); e != api.OK {
			return e
		}
	}
	return api.OK
}

// alone: an expression's own error, whatever its operands are.
func (c *checker) alone(x api.Expr, groups bool) api.Errno {
	switch x.Kind {
	case api.ExCol:
		_, e := c.scope.Find(x.Table, x.Name)
		return e
	case api.ExCall:
		return c.call(x, groups)
	}
	if !shaped(x) {
		return api.ErrArg
	}
	return api.OK
}

// call: likewise, of a function.
func (c *checker) call(x api.Expr, groups bool) api.Errno {
	f, there := c.functions[x.Name]
	switch {
	case !there:
		return api.ErrName
	case !f.takes(x):
		return api.ErrArg
	case f.aggregate && !groups:
		return api.ErrMany
	}
	return api.OK
}

// shaped: has what is neither a column nor a call such an operator, and as many operands, as its kind asks for?
func shaped(x api.Expr) bool {
	switch x.Kind {
	case api.ExLit:
		return true
	case api.ExOne:
		return x.Op >= api.OpNeg && x.Op <= api.OpNotNull && len(x.L) == 1
	case api.ExTwo:
		return x.Op >= api.OpAdd && x.Op <= api.OpOr && len(x.L) == 2
	case api.ExIn:
		return len(x.L) >= 2
	}
	return false
}

// Check: do all names of an expression mean something; may it count over groups? (P9.4)
func (s *Scope) Check(x api.Expr, groups bool) api.Errno {
	if s.none() {
		return api.ErrNil
	}
	c := &checker{scope: s, functions: functions()}
	return c.expr(x, groups)
}
