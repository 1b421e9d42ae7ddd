package nums_test

import (
	"bytes"
	"math"
	"math/bits"
	"slices"
	"strings"
	"testing"

	"folkmoot/api"
	"folkmoot/nums"
)

// plain: the bytes of a number, worked out by another way than the program's: by its length in bits.
func plain(n uint64) []byte {
	l := make([]byte, max(1, (bits.Len64(n)+6)/7))
	for i := range l {
		l[i] = byte(n>>(7*i))&127 | 128
	}
	l[len(l)-1] &= 127
	return l
}

// numbers: small ones, and those around each power of two.
func numbers() []uint64 {
	var l []uint64
	for n := range uint64(1000) {
		l = append(l, n)
	}
	for i := range 64 {
		for d := range uint64(5) {
			l = append(l, 1<<i+d-2, 3<<i+d-2)
		}
	}
	slices.Sort(l)
	return slices.Compact(l)
}

// strings of bytes that are read in the tests: all of up to two bytes, and runs of great ones with something behind.
func readings() [][]byte {
	l := [][]byte{nil}
	for a := range 256 {
		l = append(l, []byte{byte(a)})
		for b := range 256 {
			l = append(l, []byte{byte(a), byte(b)})
		}
	}
	for size := range 13 {
		for _, c := range []byte{128, 129, 254, 255} {
			run := bytes.Repeat([]byte{c}, size)
			l = append(l, run)
			for _, end := range []byte{0, 1, 2, 3, 63, 64, 126, 127} {
				l = append(l, append(bytes.Clone(run), end), append(bytes.Clone(run), end, 7, 200))
			}
		}
	}
	return l
}

// wanted: what P1.1 says of reading, word by word.
func wanted(b []byte) (uint64, int, api.Errno) {
	end := slices.IndexFunc(b, func(c byte) bool { return c < 128 })
	switch {
	case end < 0 && len(b) < 10:
		return 0, 0, api.ErrShort
	case end < 0 || end >= 10:
		return 0, 0, api.ErrForm
	}
	var n uint64
	for i := range end + 1 {
		n += uint64(b[i]&127) << (7 * i)
	}
	if !bytes.Equal(plain(n), b[:end+1]) {
		return 0, 0, api.ErrForm
	}
	return n, end + 1, api.OK
}

func TestPutExamples(t *testing.T) { // P1.1
	for _, c := range []struct {
		b    []byte
		n    uint64
		want []byte
	}{
		{nil, 0, []byte{0}},
		{nil, 127, []byte{127}},
		{nil, 300, []byte{172, 2}},
		{[]byte{9}, 128, []byte{9, 128, 1}},
		{[]byte{}, 16383, []byte{255, 127}},
		{nil, 16384, []byte{128, 128, 1}},
		{nil, 1<<63 - 1, []byte{255, 255, 255, 255, 255, 255, 255, 255, 127}},
		{nil, 1 << 63, []byte{128, 128, 128, 128, 128, 128, 128, 128, 128, 1}},
		{nil, math.MaxUint64, []byte{255, 255, 255, 255, 255, 255, 255, 255, 255, 1}},
	} {
		if got := nums.Put(c.b, c.n); !bytes.Equal(got, c.want) {
			t.Errorf("Put(%v, %d): %v, not %v", c.b, c.n, got, c.want)
		}
	}
}

func TestPutThenGet(t *testing.T) { // P1.1
	for _, n := range numbers() {
		b := nums.Put([]byte{200}, n)
		if want := append([]byte{200}, plain(n)...); !bytes.Equal(b, want) {
			t.Errorf("Put(200, %d): %v, not %v", n, b, want)
		}
		for _, behind := range [][]byte{nil, {0}, {255}} {
			got, took, e := nums.Get(append(b[1:len(b):len(b)], behind...))
			if got != n || took != len(b)-1 || e != api.OK {
				t.Errorf("Get of %d with %v behind: %d %d %d", n, behind, got, took, e)
			}
		}
	}
}

func TestGetExamples(t *testing.T) { // P1.1
	full := bytes.Repeat([]byte{255}, 10)
	for _, c := range []struct {
		b    []byte
		n    uint64
		took int
		e    api.Errno
	}{
		{[]byte{172, 2, 7}, 300, 2, api.OK},
		{nil, 0, 0, api.ErrShort},
		{[]byte{}, 0, 0, api.ErrShort},
		{[]byte{128}, 0, 0, api.ErrShort},
		{full[:9], 0, 0, api.ErrShort},
		{[]byte{128, 128, 128, 128, 128, 128, 128, 128, 128}, 0, 0, api.ErrShort},
		{full, 0, 0, api.ErrForm},
		{append(bytes.Clone(full), 1), 0, 0, api.ErrForm},
		{append(bytes.Clone(full), 255), 0, 0, api.ErrForm},
		{[]byte{128, 0}, 0, 0, api.ErrForm},
		{[]byte{128, 0, 1}, 0, 0, api.ErrForm},
		{[]byte{255, 128, 0}, 0, 0, api.ErrForm},
		{append(bytes.Clone(full[:9]), 0), 0, 0, api.ErrForm},
		{append(bytes.Clone(full[:9]), 1), math.MaxUint64, 10, api.OK},
		{append(bytes.Clone(full[:9]), 2), 0, 0, api.ErrForm},
		{append(bytes.Clone(full[:9]), 127), 0, 0, api.ErrForm},
		{append(bytes.Clone(full[:9]), 129, 0), 0, 0, api.ErrForm},
		{append(bytes.Clone(full[:9]), 128, 1), 0, 0, api.ErrForm},
	} {
		if n, took, e := nums.Get(c.b); n != c.n || took != c.took || e != c.e {
			t.Errorf("Get(%v): %d %d %d, not %d %d %d", c.b, n, took, e, c.n, c.took, c.e)
		}
	}
}

func TestGetAsThePromiseSays(t *testing.T) { // P1.1
	for _, b := range readings() {
		n, took, e := nums.Get(b)
		if wn, wt, we := wanted(b); n != wn || took != wt || e != we {
			t.Fatalf("Get(%v): %d %d %d, not %d %d %d", b, n, took, e, wn, wt, we)
		}
	}
}

func TestSignedExamples(t *testing.T) { // P1.2
	for _, c := range []struct {
		b    []byte
		n    int64
		want []byte
	}{
		{[]byte{7}, -1, []byte{7, 1}},
		{nil, 0, []byte{0}},
		{nil, 1, []byte{2}},
		{nil, -2, []byte{3}},
		{nil, 63, []byte{126}},
		{nil, -64, []byte{127}},
		{nil, 64, []byte{128, 1}},
		{nil, -65, []byte{129, 1}},
		{[]byte{}, math.MaxInt64, []byte{254, 255, 255, 255, 255, 255, 255, 255, 255, 1}},
		{nil, math.MinInt64, []byte{255, 255, 255, 255, 255, 255, 255, 255, 255, 1}},
	} {
		got := nums.PutSigned(c.b, c.n)
		if !bytes.Equal(got, c.want) {
			t.Errorf("PutSigned(%v, %d): %v, not %v", c.b, c.n, got, c.want)
			continue
		}
		own := got[len(c.b):]
		if n, took, e := nums.GetSigned(append(bytes.Clone(own), 5)); n != c.n || took != len(own) || e != api.OK {
			t.Errorf("GetSigned(%v 5): %d %d %d", own, n, took, e)
		}
	}
}

// folded: as the chapter defines it; of the numbers of which the double fits.
func folded(n int64) uint64 {
	if n >= 0 {
		return uint64(n * 2)
	}
	return uint64(-1 - n*2)
}

func TestSignedIsFolded(t *testing.T) { // P1.2
	for n := int64(-70000); n <= 70000; n += 7 {
		b := nums.PutSigned(nil, n)
		if !bytes.Equal(b, plain(folded(n))) {
			t.Fatalf("PutSigned(%d): %v", n, b)
		}
	}
	for _, u := range numbers() {
		n := int64(u)
		if got, took, e := nums.GetSigned(nums.PutSigned(nil, n)); got != n || took == 0 || e != api.OK {
			t.Errorf("GetSigned of %d: %d %d %d", n, got, took, e)
		}
	}
}

func TestGetSignedAnswersTheErrorsOfGet(t *testing.T) { // P1.2
	for _, b := range readings() {
		_, wantTook, want := nums.Get(b)
		n, took, e := nums.GetSigned(b)
		if took != wantTook || e != want || e != api.OK && n != 0 {
			t.Fatalf("GetSigned(%v): %d %d %d", b, n, took, e)
		}
	}
}

func TestTextExamples(t *testing.T) { // P1.3
	if b := nums.PutText(nil, "ab"); !bytes.Equal(b, []byte{2, 97, 98}) {
		t.Errorf("PutText(none, ab): %v", b)
	}
	for _, c := range []struct {
		b    string
		s    string
		took int
		e    api.Errno
	}{
		{"\x02abc", "ab", 3, api.OK},
		{"\x03ab", "", 0, api.ErrShort},
		{"\x00", "", 1, api.OK},
		{"\x00a", "", 1, api.OK},
		{"\x01", "", 0, api.ErrShort},
		{"", "", 0, api.ErrShort},
		{"\x80", "", 0, api.ErrShort},
		{"\x80\x00", "", 0, api.ErrForm},
		{"\x81\x00a", "", 0, api.ErrForm},
		{strings.Repeat("\xff", 10) + "a", "", 0, api.ErrForm},
		{strings.Repeat("\xff", 9) + "\x01a", "", 0, api.ErrShort},                         // 2^64 - 1 bytes
		{strings.Repeat("\x80", 9) + "\x01a", "", 0, api.ErrShort},                         // 2^63
		{strings.Repeat("\xff", 8) + "\x7fa", "", 0, api.ErrShort},                         // 2^63 - 1
		{"\x80\x80\x80\x80\x10" + strings.Repeat("a", 9), "", 0, api.ErrShort},             // 2^32
		{"\x02\xff\x00", "\xff\x00", 3, api.OK},                                            // bytes, not letters
		{"\x80\x01" + strings.Repeat("é", 64) + "x", strings.Repeat("é", 64), 130, api.OK}, // as many bytes, not as many letters
		{"\x80\x01" + strings.Repeat("x", 127), "", 0, api.ErrShort},
	} {
		if s, took, e := nums.GetText([]byte(c.b)); s != c.s || took != c.took || e != c.e {
			t.Errorf("GetText(%q): %q %d %d, not %q %d %d", c.b, s, took, e, c.s, c.took, c.e)
		}
	}
}

func TestPutTextThenGetText(t *testing.T) { // P1.3
	for _, size := range []int{0, 1, 2, 126, 127, 128, 129, 512, 16383, 16384, 70000} {
		s := strings.Repeat("\xfeö", size)[:size]
		want := append(plain(uint64(size)), s...)
		b := nums.PutText([]byte("k"), s)
		if !bytes.Equal(b, append([]byte("k"), want...)) {
			t.Errorf("PutText of %d bytes: %d bytes", size, len(b))
			continue
		}
		if got, took, e := nums.GetText(append(b[1:len(b):len(b)], 'x')); got != s || took != len(want) || e != api.OK {
			t.Errorf("GetText of %d bytes: %d bytes %d %d", size, len(got), took, e)
		}
		for cut := 1; cut < len(b); cut += 1 + len(b)/50 {
			if got, took, e := nums.GetText(b[1:cut]); got != "" || took != 0 || e != api.ErrShort {
				t.Fatalf("GetText of %d bytes, cut to %d: %q %d %d", size, cut-1, got, took, e)
			}
		}
	}
}

func TestNoNumberBeginsAnother(t *testing.T) { // P1.4
	var all []string
	for _, n := range numbers() {
		all = append(all, string(nums.Put(nil, n)))
	}
	slices.Sort(all)
	for i := range len(all) - 1 { // in order, what begins with a text comes right behind it
		if strings.HasPrefix(all[i+1], all[i]) {
			t.Errorf("%q begins %q", all[i], all[i+1])
		}
	}
}

func TestNumbersInARow(t *testing.T) { // P1.4
	l := numbers()
	var b []byte
	for i, n := range l {
		switch i % 3 {
		case 0:
			b = nums.Put(b, n)
		case 1:
			b = nums.PutSigned(b, int64(n))
		case 2:
			b = nums.PutText(b, string(plain(n)))
		}
	}
	for i, n := range l {
		var took int
		var same bool
		var e api.Errno
		switch i % 3 {
		case 0:
			var got uint64
			got, took, e = nums.Get(b)
			same = got == n
		case 1:
			var got int64
			got, took, e = nums.GetSigned(b)
			same = got == int64(n)
		case 2:
			var got string
			got, took, e = nums.GetText(b)
			same = got == string(plain(n))
		}
		if !same || e != api.OK {
			t.Fatalf("number %d of them, %d: error %d", i, n, e)
		}
		b = b[took:]
	}
	if len(b) != 0 {
		t.Errorf("%d bytes are left", len(b))
	}
}

func TestComplement(t *testing.T) { // P1.4
	for _, u := range numbers() {
		a, b := nums.PutSigned(nil, int64(u)), nums.PutSigned(nil, ^int64(u))
		if len(a) == 0 || len(a) != len(b) || a[0]^b[0] != 1 || !bytes.Equal(a[1:], b[1:]) {
			t.Errorf("%d: %v and %v", int64(u), a, b)
		}
	}
}

func TestNewMemory(t *testing.T) { // R4
	puts := map[string]func(b []byte) []byte{
		"Put":       func(b []byte) []byte { return nums.Put(b, 300) },
		"PutSigned": func(b []byte) []byte { return nums.PutSigned(b, -300) },
		"PutText":   func(b []byte) []byte { return nums.PutText(b, "word") },
	}
	for name, put := range puts {
		room := bytes.Repeat([]byte{77}, 64)
		first, second := put(room[:3]), put(room[:3])
		kept := bytes.Clone(second)
		if !bytes.Equal(first, second) {
			t.Errorf("%s: %v, then %v", name, first, second)
		}
		first = first[:cap(first)]
		for i := range first {
			first[i] = 1
		}
		if !bytes.Equal(room, bytes.Repeat([]byte{77}, 64)) {
			t.Errorf("%s shares memory with its argument, or wrote there: %v", name, room)
		}
		if !bytes.Equal(second, kept) {
			t.Errorf("%s: two results share memory", name)
		}
	}
	given := []byte("\x04word")
	s, _, _ := nums.GetText(given)
	copy(given, "\x04lost")
	if s != "word" {
		t.Errorf("GetText kept its argument: %q", s)
	}
}
