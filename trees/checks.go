package trees

import (
	"folkmoot/api"
	"folkmoot/words"
)

// maxList: elements of a list that has no limit of its own.
const maxList = 64

// allMay: are there some, at most that many, and may each of them be?
func allMay[T any](l []T, most int, may func(x T) bool) bool {
	if len(l) == 0 || len(l) > most {
		return false
	}
	for _, x := range l {
		if !may(x) {
			return false
		}
	}
	return true
}

// ifAny: likewise, or there are none.
func ifAny[T any](l []T, may func(x T) bool) bool { return len(l) == 0 || allMay(l, maxList, may) }

func aliasMay(s string) bool { return s == "" || words.Name(s) }

// exprMay: may an expression be that must be there?
func exprMay(x api.Expr) bool { return within(x, api.MaxDepth) }

// optionalMay: likewise, or it is not there.
func optionalMay(x api.Expr) bool { return isNoExpr(x) || exprMay(x) }

// within: may an expression be, of at most that depth?
func within(x api.Expr, depth int) bool {
	if depth == 0 || !shapeMay(x) || !isNoExpr(exprRest(x)) {
		return false
	}
	for _, y := range x.L {
		if !within(y, depth-1) {
			return false
		}
	}
	return true
}

// shapeMay: may those fields be that its kind has, whatever its operands are?
func shapeMay(x api.Expr) bool {
	switch x.Kind {
	case api.ExLit:
		return literalMay(x.Value)
	case api.ExCol:
		return aliasMay(x.Table) && words.Name(x.Name)
	case api.ExOne:
		return x.Op >= api.OpNeg && x.Op <= api.OpNotNull && len(x.L) == 1
	case api.ExTwo:
		return x.Op >= api.OpAdd && x.Op <= api.OpOr && len(x.L) == 2
	case api.ExIn:
		return len(x.L) >= 2 && len(x.L) <= 1+maxList
	case api.ExCall:
		return words.Name(x.Name) && len(x.L) <= maxList && !(x.Star && len(x.L) > 0)
	}
	return false
}

// literalMay: is it a value that a text can have? One below 0 is none, but an operator and a value.
func literalMay(v api.Value) bool {
	switch v.Kind {
	case api.VkInt:
		return v.I >= 0 && v.S == ""
	case api.VkText:
		return v.I == 0 && len(v.S) <= api.MaxString
	}
	return v == api.Value{}
}

// exprRest: what an expression has beside the fields of its kind.
func exprRest(x api.Expr) api.Expr {
	switch x.Kind {
	case api.ExLit:
		x.Value = api.Value{}
	case api.ExCol:
		x.Table, x.Name = "", ""
	case api.ExOne, api.ExTwo:
		x.Op, x.L = api.OpNone, nil
	case api.ExIn:
		x.L = nil
	case api.ExCall:
		x.Name, x.L, x.Star = "", nil, false
	}
	x.Kind = api.ExNone
	return x
}

// isNoExpr: is it one that is not there?
func isNoExpr(x api.Expr) bool {
	return x.Kind == api.ExNone && x.Op == api.OpNone && x.Table == "" && x.Name == "" &&
		x.Value == api.Value{} && !x.Star && len(x.L) == 0
}

// ownMay: may those fields of a statement be that its kind has?
func ownMay(x api.Stmt) bool {
	if x.Kind == api.StSelect {
		return selectionMay(x)
	}
	if !words.Name(x.Table) {
		return false
	}
	switch x.Kind {
	case api.StCreate:
		return allMay(x.Columns, api.MaxColumns, columnMay)
	case api.StDrop:
		return true
	case api.StIndex:
		return words.Name(x.Name) && allMay(x.Names, 1, words.Name)
	case api.StInsert:
		return ifAny(x.Names, words.Name) && allMay(x.Rows, maxList, rowMay)
	case api.StUpdate:
		return allMay(x.Names, maxList, words.Name) && allMay(x.Rows, 1, rowMay) &&
			len(x.Rows[0]) == len(x.Names) && optionalMay(x.Where)
	case api.StDelete:
		return optionalMay(x.Where)
	}
	return false
}

func selectionMay(x api.Stmt) bool {
	return itemsMay(x.Items) && tablesMay(x.From) && optionalMay(x.Where) &&
		ifAny(x.Group, exprMay) && optionalMay(x.Having) && (len(x.Group) > 0 || isNoExpr(x.Having)) &&
		ifAny(x.Order, orderMay) && limitMay(x.Limit, x.Skip)
}

func itemsMay(l []api.Item) bool {
	if len(l) == 1 && l[0].Star {
		return isNoExpr(l[0].E) && l[0].As == ""
	}
	return allMay(l, maxList, itemMay)
}

func itemMay(x api.Item) bool { return !x.Star && aliasMay(x.As) && exprMay(x.E) }

// tablesMay: all but the first one need a condition.
func tablesMay(l []api.From) bool {
	return allMay(l, api.MaxFrom, tableMay) && isNoExpr(l[0].On) &&
		(len(l) == 1 || allMay(l[1:], api.MaxFrom, joinMay))
}

func tableMay(x api.From) bool { return words.Name(x.Table) && aliasMay(x.As) }

func joinMay(x api.From) bool { return exprMay(x.On) }

func orderMay(x api.Order) bool { return exprMay(x.E) }

func limitMay(limit, skip int64) bool {
	if limit == unlimited {
		return skip == 0
	}
	return limit >= 0 && skip >= 0
}

func rowMay(l []api.Expr) bool { return allMay(l, maxList, exprMay) }

func columnMay(c api.Column) bool {
	return words.Name(c.Name) && (c.Type == api.VkInt || c.Type == api.VkText)
}

// rest: what a statement has beside the fields of its kind.
func rest(x api.Stmt) api.Stmt {
	switch x.Kind {
	case api.StCreate:
		x.Table, x.Columns = "", nil
	case api.StDrop:
		x.Table = ""
	case api.StIndex:
		x.Name, x.Table, x.Names = "", "", nil
	case api.StInsert:
		x.Table, x.Names, x.Rows = "", nil, nil
	case api.StUpdate:
		x.Table, x.Names, x.Rows, x.Where = "", nil, nil, api.Expr{}
	case api.StDelete:
		x.Table, x.Where = "", api.Expr{}
	case api.StSelect:
		x.Items, x.From, x.Where, x.Group, x.Having, x.Order = nil, nil, api.Expr{}, nil, api.Expr{}, nil
		x.Limit, x.Skip = 0, 0
	}
	x.Kind = api.StNone
	return x
}

// isNoStmt: has it none of the fields?
func isNoStmt(x api.Stmt) bool {
	return x.Kind == api.StNone && x.Name == "" && x.Table == "" && len(x.Columns) == 0 && len(x.Names) == 0 &&
		len(x.Rows) == 0 && len(x.Items) == 0 && len(x.From) == 0 && isNoExpr(x.Where) && len(x.Group) == 0 &&
		isNoExpr(x.Having) && len(x.Order) == 0 && x.Limit == 0 && x.Skip == 0
}
