package rows

import (
	"slices"

	"folkmoot/api"
	"folkmoot/nums"
)

const (
	widest   = 64  // names of a result, and values of one of its rows
	greatest = 255 // number that a byte holds
)

// tooMany: are there more things in a result than there may be?
func tooMany(x api.Result) bool {
	wide := func(l []api.Value) bool { return len(l) > widest }
	return len(x.Names) > widest || len(x.Rows) > api.MaxRows || slices.ContainsFunc(x.Rows, wide)
}

// isByte: does a byte hold it?
func isByte(n int) bool { return n >= 0 && n <= greatest }

// checkOutcome: may an outcome be so?
func checkOutcome(o api.Outcome) api.Errno {
	invalid := func(x api.Result) bool { return slices.ContainsFunc(x.Rows, anyInvalid) }
	switch {
	case len(o.Results) > api.MaxBatch || slices.ContainsFunc(o.Results, tooMany):
		return api.ErrLimit
	case !isByte(int(o.E)) || !isByte(o.At) || slices.ContainsFunc(o.Results, invalid):
		return api.ErrArg
	}
	return api.OK
}

// result writes one.
func (w *writer) result(x api.Result) {
	putList(w, x.Names, w.text)
	putList(w, x.Rows, func(l []api.Value) { putList(w, l, w.value) })
	put(w, nums.PutSigned, x.Changed)
}

// result reads one.
func (r *reader) result() api.Result {
	names := takeList(r, widest, r.text)
	rows := takeList(r, api.MaxRows, func() []api.Value { return takeList(r, widest, r.value) })
	return api.Result{Names: names, Rows: rows, Changed: take(r, nums.GetSigned)}
}

// outcome reads one.
func (r *reader) outcome() api.Outcome {
	o := api.Outcome{E: api.Errno(r.next()), At: int(r.next())}
	o.Results = takeList(r, api.MaxBatch, r.result)
	return o
}

// PutOutcome: an outcome as bytes. (P5.4)
func PutOutcome(o api.Outcome) ([]byte, api.Errno) {
	if e := checkOutcome(o); e != api.OK {
		return nil, e
	}
	w := &writer{}
	w.add(byte(o.E), byte(o.At))
	putList(w, o.Results, w.result)
	return w.b, api.OK
}

// GetOutcome: back. (P5.4)
func GetOutcome(b []byte) (api.Outcome, api.Errno) { return takeAll(b, (*reader).outcome) }
