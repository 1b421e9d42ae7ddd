package prints

import (
	"folkmoot/api"
	"folkmoot/values"
)

func (p *printer) stmt(x api.Stmt) {
	switch x.Kind {
	case api.StSelect:
		p.selection(x)
	case api.StInsert:
		p.insert(x)
	case api.StUpdate:
		p.update(x)
	case api.StDelete:
		p.put("DELETE", "FROM", x.Table)
		p.condition("WHERE", x.Where)
	case api.StCreate:
		p.put("CREATE", "TABLE", x.Table)
		enclosed(p, x.Columns, p.newColumn)
	case api.StDrop:
		p.put("DROP", "TABLE", x.Table)
	case api.StIndex:
		p.put("CREATE", "INDEX", x.Name, "ON", x.Table)
		enclosed(p, x.Names, p.name)
	}
}

func (p *printer) selection(x api.Stmt) {
	p.put("SELECT")
	list(p, x.Items, p.item)
	p.put("FROM")
	p.tables(x.From)
	p.condition("WHERE", x.Where)
	if len(x.Group) > 0 {
		p.put("GROUP", "BY")
		list(p, x.Group, p.whole)
		p.condition("HAVING", x.Having)
	}
	if len(x.Order) > 0 {
		p.put("ORDER", "BY")
		list(p, x.Order, p.order)
	}
	if x.Limit >= 0 {
		p.put("LIMIT", number(x.Limit))
	}
	if x.Skip > 0 {
		p.put("OFFSET", number(x.Skip))
	}
}

func number(n int64) string { return values.Text(api.Value{Kind: api.VkInt, I: n}) }

func (p *printer) item(x api.Item) {
	if x.Star {
		p.put("*")
		return
	}
	p.whole(x.E)
	p.alias(x.As)
}

func (p *printer) tables(l []api.From) {
	for i, x := range l {
		if i > 0 {
			p.put("JOIN")
		}
		p.put(x.Table)
		p.alias(x.As)
		p.condition("ON", x.On)
	}
}

// condition behind that keyword, if it is there.
func (p *printer) condition(keyword string, x api.Expr) {
	if x.Kind == api.ExNone {
		return
	}
	p.put(keyword)
	p.whole(x)
}

func (p *printer) order(x api.Order) {
	p.whole(x.E)
	if x.Down {
		p.put("DESC")
	}
}

func (p *printer) insert(x api.Stmt) {
	p.put("INSERT", "INTO", x.Table)
	if len(x.Names) > 0 {
		enclosed(p, x.Names, p.name)
	}
	p.put("VALUES")
	list(p, x.Rows, p.row)
}

func (p *printer) update(x api.Stmt) {
	p.put("UPDATE", x.Table, "SET")
	for i, name := range x.Names {
		if i > 0 {
			p.put(",")
		}
		p.put(name, "=")
		p.whole(x.Rows[0][i])
	}
	p.condition("WHERE", x.Where)
}

func (p *printer) newColumn(c api.Column) {
	p.put(c.Name)
	switch c.Type {
	case api.VkInt:
		p.put("INT")
	case api.VkText:
		p.put("TEXT")
	}
	if c.Primary {
		p.put("PRIMARY", "KEY")
	}
	if c.Unique {
		p.put("UNIQUE")
	}
	if c.NotNull {
		p.put("NOT", "NULL")
	}
}
