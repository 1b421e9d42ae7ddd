// Package nums is layer 1: integers and strings as bytes. See doc/01-nums.md.
package nums

import "folkmoot/api"

const (
	more    = 128 // stands on each digit but the last one
	width   = 7   // bits of a digit
	longest = 10  // digits of a number of 64 bits, at most
	highest = 1   // of the tenth digit only one bit is left of the 64
)

// digits gives the digits of a number one by one, the lowest one first; and whether another one follows.
func digits(n uint64) func() (digit byte, goes bool) {
	return func() (byte, bool) {
		digit := byte(n % more)
		n >>= width
		return digit, n > 0
	}
}

// digitsOf gives the digits that stand in bytes one by one; not ok: the bytes have ended.
func digitsOf(b []byte) func() (digit byte, goes, ok bool) {
	at := 0
	return func() (byte, bool, bool) {
		if at == len(b) {
			return 0, false, false
		}
		c := b[at]
		at++
		return c % more, c >= more, true
	}
}

// bytesOf: those of a number.
func bytesOf(n uint64) []byte {
	l := make([]byte, 0, longest)
	next := digits(n)
	for {
		digit, goes := next()
		if !goes {
			return append(l, digit)
		}
		l = append(l, digit+more)
	}
}

// collect puts parts one behind the other, in new memory: appending to the first one could write into what its owner has behind it.
func collect(parts ...[]byte) []byte {
	size := 0
	for _, p := range parts {
		size += len(p)
	}
	all := make([]byte, 0, size)
	for _, p := range parts {
		all = append(all, p...)
	}
	return all
}

// Put appends the bytes of a number. (P1.1)
func Put(b []byte, n uint64) []byte { return collect(b, bytesOf(n)) }

// Get: the number at the start of b, and how many bytes it took. (P1.1)
func Get(b []byte) (n uint64, took int, e api.Errno) {
	next := digitsOf(b)
	for at := range longest {
		digit, goes, ok := next()
		switch {
		case !ok:
			return 0, 0, api.ErrShort
		case at == longest-1 && digit > highest:
			return 0, 0, api.ErrForm
		case at > 0 && digit == 0 && !goes: // a superfluous zero
			return 0, 0, api.ErrForm
		}
		n |= uint64(digit) << (width * at)
		if !goes {
			return n, at + 1, api.OK
		}
	}
	return 0, 0, api.ErrForm
}

// fold: the double of a number, or -1 minus it; so that few bytes do for numbers below 0, too.
func fold(n int64) uint64 { return uint64(n)<<1 ^ uint64(n>>63) }

// unfold: back.
func unfold(u uint64) int64 { return int64(u>>1) ^ -int64(u&1) }

// PutSigned appends the bytes of a folded number. (P1.2)
func PutSigned(b []byte, n int64) []byte { return Put(b, fold(n)) }

// GetSigned: the number whose folded one is at the start of b, and how many bytes it took. (P1.2)
func GetSigned(b []byte) (n int64, took int, e api.Errno) {
	u, took, e := Get(b)
	if e != api.OK {
		return 0, 0, e
	}
	return unfold(u), took, api.OK
}

// PutText appends the length of a string, and its bytes. (P1.3)
func PutText(b []byte, s string) []byte {
	return collect(b, bytesOf(uint64(len(s))), []byte(s))
}

// GetText: the string at the start of b, and how many bytes it took, with those of its length. (P1.3)
func GetText(b []byte) (s string, took int, e api.Errno) {
	size, took, e := Get(b)
	if e != api.OK {
		return "", 0, e
	}
	rest := b[took:]
	if size > uint64(len(rest)) { // as numbers of 64 bits: the length need not fit into an int
		return "", 0, api.ErrShort
	}
	return string(rest[:size]), took + int(size), api.OK
}
