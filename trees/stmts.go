package trees

import "folkmoot/api"

// unlimited: the Limit of a select that has none.
const unlimited = -1

func (r *reader) statement() api.Stmt {
	switch {
	case r.take("select"):
		return r.selection()
	case r.take("insert"):
		return r.insert()
	case r.take("update"):
		return r.update()
	case r.take("delete"):
		return r.remove()
	case r.take("create"):
		return r.create()
	case r.take("drop"):
		r.need("table")
		return api.Stmt{Kind: api.StDrop, Table: r.name()}
	}
	r.wrong = true
	return api.Stmt{}
}

func (r *reader) selection() api.Stmt {
	x := api.Stmt{Kind: api.StSelect, Limit: unlimited}
	x.Items = r.items()
	r.need("from")
	x.From = r.tables()
	x.Where = r.condition("where")
	if r.phrase("group", "by") {
		x.Group = list(r, r.expr)
		x.Having = r.condition("having")
	}
	if r.phrase("order", "by") {
		x.Order = list(r, r.order)
	}
	if r.take("limit") {
		x.Limit = r.number()
		if r.take("offset") {
			x.Skip = r.number()
		}
	}
	return x
}

func (r *reader) items() []api.Item {
	if r.take("*") {
		return []api.Item{{Star: true}}
	}
	return list(r, r.item)
}

func (r *reader) item() api.Item {
	x := r.expr()
	return api.Item{E: x, As: r.alias()}
}

func (r *reader) tables() []api.From {
	l := []api.From{r.table()}
	for r.take("join") {
		t := r.table()
		r.need("on")
		t.On = r.expr()
		l = append(l, t)
	}
	return l
}

func (r *reader) table() api.From {
	name := r.name()
	return api.From{Table: name, As: r.alias()}
}

// condition behind that keyword, if it is next.
func (r *reader) condition(keyword string) api.Expr {
	if !r.take(keyword) {
		return api.Expr{}
	}
	return r.expr()
}

func (r *reader) order() api.Order {
	o := api.Order{E: r.expr()}
	o.Down = r.take("desc")
	if !o.Down {
		r.take("asc")
	}
	return o
}

func (r *reader) insert() api.Stmt {
	r.need("into")
	x := api.Stmt{Kind: api.StInsert, Table: r.name()}
	if !r.take("values") {
		x.Names = enclosed(r, r.name)
		r.need("values")
	}
	x.Rows = list(r, r.row)
	return x
}

func (r *reader) row() []api.Expr { return enclosed(r, r.expr) }

func (r *reader) update() api.Stmt {
	x := api.Stmt{Kind: api.StUpdate, Table: r.name()}
	r.need("set")
	var values []api.Expr
	for _, a := range list(r, r.assignment) {
		x.Names = append(x.Names, a.name)
		values = append(values, a.value)
	}
	x.Rows = [][]api.Expr{values}
	x.Where = r.condition("where")
	return x
}

// assignment of an update.
type assignment struct {
	name  string
	value api.Expr
}

func (r *reader) assignment() assignment {
	name := r.name()
	r.need("=")
	return assignment{name: name, value: r.expr()}
}

func (r *reader) remove() api.Stmt {
	r.need("from")
	x := api.Stmt{Kind: api.StDelete, Table: r.name()}
	x.Where = r.condition("where")
	return x
}

func (r *reader) create() api.Stmt {
	if r.take("index") {
		x := api.Stmt{Kind: api.StIndex, Name: r.name()}
		r.need("on")
		x.Table = r.name()
		r.need("(")
		x.Names = []string{r.name()}
		r.need(")")
		return x
	}
	r.need("table")
	x := api.Stmt{Kind: api.StCreate, Table: r.name()}
	x.Columns = enclosed(r, r.column)
	return x
}

func (r *reader) column() api.Column {
	c := api.Column{Name: r.name()}
	switch {
	case r.take("int"):
		c.Type = api.VkInt
	case r.take("text"):
		c.Type = api.VkText
	default:
		r.wrong = true
	}
	c.Primary = r.phrase("primary", "key")
	c.Unique = r.take("unique")
	c.NotNull = r.phrase("not", "null")
	return c
}
