package trees

import (
	"folkmoot/api"
	"folkmoot/words"
)

// reader of a text's words. Once a word is wrong it stays there: every later step finds nothing to take, so that lists and nested parts end by themselves.
type reader struct {
	rest      []api.Word
	wrong     bool
	operators map[string]operator
}

// parse: what a text is, all of it, read in that way, if it may be; where it is not.
func parse[T any](s string, read func(r *reader) T, may func(x T) bool) (T, int, api.Errno) {
	var none T
	l, at, e := words.Of(s)
	if e != api.OK {
		return none, at, e
	}
	r := &reader{rest: l, operators: operators()}
	switch x := read(r); {
	case len(r.rest) > 0:
		return none, r.rest[0].At, api.ErrForm
	case r.wrong:
		return none, len(s), api.ErrForm
	case !may(x):
		return none, 0, api.ErrLimit
	default:
		return x, 0, api.OK
	}
}

// next word; one that is nothing, if there is none or it is wrong.
func (r *reader) next() api.Word {
	if r.wrong || len(r.rest) == 0 {
		return api.Word{}
	}
	return r.rest[0]
}

// step over the next word.
func (r *reader) step() { r.rest = r.rest[1:] }

// take the next word if it is that keyword or symbol.
func (r *reader) take(s string) bool {
	w := r.next()
	if w.Kind == api.WoText || w.S != s {
		return false
	}
	r.step()
	return true
}

// need that keyword or symbol next.
func (r *reader) need(s string) {
	if !r.take(s) {
		r.wrong = true
	}
}

// phrase: take two keywords, of which the first one may be missing.
func (r *reader) phrase(first, second string) bool {
	if !r.take(first) {
		return false
	}
	r.need(second)
	return true
}

// name that must be next.
func (r *reader) name() string {
	w := r.next()
	if w.Kind != api.WoName || !words.Name(w.S) {
		r.wrong = true
		return ""
	}
	r.step()
	return w.S
}

// alias that may be next.
func (r *reader) alias() string {
	if !r.take("as") {
		return ""
	}
	return r.name()
}

// number that must be next.
func (r *reader) number() int64 {
	w := r.next()
	if w.Kind != api.WoInt {
		r.wrong = true
		return 0
	}
	r.step()
	return w.I
}

// list of what is read once, and again after each comma.
func list[T any](r *reader, one func() T) []T {
	l := []T{one()}
	for r.take(",") {
		l = append(l, one())
	}
	return l
}

// enclosed: such a list in parentheses.
func enclosed[T any](r *reader, one func() T) []T {
	r.need("(")
	l := list(r, one)
	r.need(")")
	return l
}
