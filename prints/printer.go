package prints

import "folkmoot/api"

// printer of tokens.
type printer struct {
	text       []byte
	tokens     int
	categories []category
}

// text of what is printed in that way, unless it is too long.
func text[T any](x T, write func(p *printer, x T)) (string, api.Errno) {
	p := &printer{categories: categories()}
	write(p, x)
	if p.over() {
		return "", api.ErrLimit
	}
	return string(p.text), api.OK
}

// over: is the text already too long?
func (p *printer) over() bool { return len(p.text) > api.MaxText || p.tokens > api.MaxWords }

// put these tokens behind the others.
func (p *printer) put(tokens ...string) {
	for _, token := range tokens {
		if p.tokens > 0 {
			p.text = append(p.text, ' ')
		}
		p.text = append(p.text, token...)
		p.tokens++
	}
}

// name: a function, as the lists' elements need one.
func (p *printer) name(s string) { p.put(s) }

// alias, if there is one.
func (p *printer) alias(s string) {
	if s != "" {
		p.put("AS", s)
	}
}

// list of elements, with commas between them.
func list[T any](p *printer, l []T, write func(x T)) {
	for i, x := range l {
		if i > 0 {
			p.put(",")
		}
		write(x)
	}
}

// enclosed: such a list in parentheses.
func enclosed[T any](p *printer, l []T, write func(x T)) {
	p.put("(")
	list(p, l, write)
	p.put(")")
}
