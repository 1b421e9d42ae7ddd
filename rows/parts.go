package rows

import (
	"folkmoot/api"
	"folkmoot/nums"
	"folkmoot/values"
)

// writer: bytes that grow part by part.
type writer struct{ b []byte }

// reader: bytes that parts are read from, one by one. Of a refused one nothing is left, so that each further part is refused, too.
type reader struct {
	b       []byte
	refused bool
}

// put writes a part. What writes it is given no bytes to stand behind: it would copy all of them.
func put[T any](w *writer, bytesOf func(b []byte, x T) []byte, x T) {
	w.b = append(w.b, bytesOf(nil, x)...)
}

// take reads a part, if it is there.
func take[T any](r *reader, at func(b []byte) (x T, took int, e api.Errno)) T {
	x, took, e := at(r.b)
	r.need(e == api.OK)
	r.b = r.b[took:]
	return x
}

// putList writes how many things there are, and each of them.
func putList[T any](w *writer, l []T, one func(x T)) {
	put(w, nums.Put, uint64(len(l)))
	for _, x := range l {
		one(x)
	}
}

// takeList reads what putList wrote, if there are no more things than that.
func takeList[T any](r *reader, most int, one func() T) []T {
	var l []T
	for range r.below(most + 1) {
		l = append(l, one())
		if r.refused { // a few bytes must not make a long list
			return nil
		}
	}
	return l
}

// takeAll reads one thing, if all bytes are its bytes.
func takeAll[T any](b []byte, one func(r *reader) T) (T, api.Errno) {
	r := &reader{b: b}
	x := one(r)
	r.need(len(r.b) == 0)
	if r.refused {
		var none T
		return none, api.ErrForm
	}
	return x, api.OK
}

// need refuses what is not so.
func (r *reader) need(so bool) {
	if !so {
		r.b, r.refused = nil, true
	}
}

// below reads a number that is less than that, and so fits into an int; 0 if it is not.
func (r *reader) below(end int) int {
	n := take(r, nums.Get)
	r.need(n < uint64(end))
	if r.refused {
		return 0
	}
	return int(n)
}

// byteAt: the byte at the start of b.
func byteAt(b []byte) (c byte, took int, e api.Errno) {
	if len(b) == 0 {
		return 0, 0, api.ErrShort
	}
	return b[0], 1, api.OK
}

// add writes bytes as they are.
func (w *writer) add(l ...byte) { w.b = append(w.b, l...) }

// next reads one such byte.
func (r *reader) next() byte { return take(r, byteAt) }

// text: a string of any length.
func (w *writer) text(s string) { put(w, nums.PutText, s) }

// text: likewise.
func (r *reader) text() string { return take(r, nums.GetText) }

// value: one that may be.
func (w *writer) value(v api.Value) {
	w.add(byte(v.Kind))
	switch v.Kind {
	case api.VkInt:
		put(w, nums.PutSigned, v.I)
	case api.VkText:
		w.text(v.S)
	}
}

// value: likewise.
func (r *reader) value() api.Value {
	v := api.Value{Kind: api.ValueKind(r.next())}
	switch v.Kind {
	case api.VkInt:
		v.I = take(r, nums.GetSigned)
	case api.VkText:
		v.S = r.text()
	}
	r.need(values.Check(v))
	return v
}
