package words_test

import (
	"fmt"
	"math"
	"math/big"
	"math/rand"
	"regexp"
	"slices"
	"strconv"
	"strings"
	"testing"
	"unsafe"

	"folkmoot/api"
	"folkmoot/words"
)

const keywords = "select from where group by having order limit offset join on as and or not null is in insert into values update set delete create table drop index primary key unique int text asc desc"

const (
	blanks   = " \t\n\r"
	noTokens = "\x00\v\f!\"#$&:;?@[\\]^_`{|}~\x7f\x80\x85\xa0\xc3\xff" // no token begins with one of these
)

var signs = []string{"<=", "<>", ">=", "||", "(", ")", ",", ".", "*", "+", "-", "/", "%", "=", "<", ">"}

func name(s string, at int) api.Word { return api.Word{Kind: api.WoName, S: s, At: at} }

func number(i int64, at int) api.Word { return api.Word{Kind: api.WoInt, I: i, At: at} }

func text(s string, at int) api.Word { return api.Word{Kind: api.WoText, S: s, At: at} }

func sign(s string, at int) api.Word { return api.Word{Kind: api.WoSign, S: s, At: at} }

func long(size int) string { return strings.Repeat("l", size) }

// quoted: a string as it stands in a text.
func quoted(s string) string { return "'" + strings.ReplaceAll(s, "'", "''") + "'" }

// ofIs: Of answers that.
func ofIs(t *testing.T, s string, want []api.Word, at int, e api.Errno) {
	t.Helper()
	if l, k, f := words.Of(s); !slices.Equal(l, want) || k != at || f != e {
		t.Errorf("Of(%.60q, of %d bytes): %.200q %d %d, not %.200q %d %d", s, len(s), fmt.Sprint(l), k, f, fmt.Sprint(want), at, e)
	}
}

// tokensAre: Of answers these.
func tokensAre(t *testing.T, s string, want ...api.Word) {
	t.Helper()
	ofIs(t, s, want, 0, api.OK)
}

// refuses: Of answers that error.
func refuses(t *testing.T, s string, at int, e api.Errno) {
	t.Helper()
	ofIs(t, s, nil, at, e)
}

// token by another way; what stands behind it tells whether a string has ended.
var token = regexp.MustCompile(`^(?s)(?:([A-Za-z][A-Za-z0-9_]*)|([0-9]+)|('(?:[^']|'')*')|(<=|<>|>=|\|\||[(),.*+/%=<>-]))`)

// plainToken: the token at the start of a text, its size, and its error.
func plainToken(s string) (w api.Word, size int, e api.Errno) {
	m := token.FindStringSubmatch(s)
	switch {
	case m == nil, m[3] != "" && strings.HasPrefix(s[len(m[3]):], "'"), len(m[1]) > 16:
		return w, 0, api.ErrForm
	case m[1] != "":
		w = name(strings.ToLower(m[1]), 0)
	case m[2] != "":
		n, _ := new(big.Int).SetString(m[2], 10)
		if !n.IsInt64() {
			return w, 0, api.ErrOver
		}
		w = number(n.Int64(), 0)
	case m[3] != "":
		w = text(strings.ReplaceAll(m[3][1:len(m[3])-1], "''", "'"), 0)
		if len(w.S) > 512 {
			return w, 0, api.ErrLimit
		}
	default:
		w = sign(m[4], 0)
	}
	return w, len(m[0]), api.OK
}

// plainOf: what Of answers of a text.
func plainOf(s string) (l []api.Word, at int, e api.Errno) {
	if len(s) > 4096 {
		return nil, 0, api.ErrLimit
	}
	for {
		rest := strings.TrimLeft(s, blanks)
		at += len(s) - len(rest)
		if rest == "" {
			return l, 0, api.OK
		}
		w, size, e := plainToken(rest)
		switch {
		case len(l) == 1024:
			return nil, at, api.ErrLimit
		case e != api.OK:
			return nil, at, e
		}
		w.At = at
		l = append(l, w)
		s, at = rest[size:], at+size
	}
}

// isPlain: Of answers of a text what plainOf does.
func isPlain(t *testing.T, s string) {
	t.Helper()
	l, at, e := plainOf(s)
	ofIs(t, s, l, at, e)
}

func TestOfExamples(t *testing.T) { // P6.1
	tokensAre(t, "SELECT a1<=2.5", name("select", 0), name("a1", 7), sign("<=", 9), number(2, 11), sign(".", 12), number(5, 13))
	tokensAre(t, "'it''s'x", text("it's", 0), name("x", 7))
	refuses(t, "'a", 0, api.ErrForm)
	refuses(t, "a ;", 2, api.ErrForm)
	refuses(t, "9223372036854775808", 0, api.ErrOver)
}

func TestNoTokens(t *testing.T) { // P6.1
	for _, s := range []string{"", " ", blanks, strings.Repeat(" ", 4096), strings.Repeat(blanks, 1024)} {
		tokensAre(t, s)
	}
}

func TestNames(t *testing.T) { // P6.1
	for c := 'a'; c <= 'z'; c++ {
		small, great := string(c), string(c-'a'+'A')
		tokensAre(t, small, name(small, 0))
		tokensAre(t, great, name(small, 0))
		tokensAre(t, "x"+small+great+"_", name("x"+small+small+"_", 0))
	}
	tokensAre(t, "a0123456789_", name("a0123456789_", 0))
	tokensAre(t, "Ab_9 a__", name("ab_9", 0), name("a__", 5))
	tokensAre(t, "1a", number(1, 0), name("a", 1))
	tokensAre(t, "a.b*c", name("a", 0), sign(".", 1), name("b", 2), sign("*", 3), name("c", 4))
	tokensAre(t, "a'b'", name("a", 0), text("b", 1))
	for _, s := range strings.Fields(keywords) {
		tokensAre(t, s, name(s, 0))
		tokensAre(t, strings.ToUpper(s)+"s", name(s+"s", 0))
	}
	refuses(t, "aé", 1, api.ErrForm)
	refuses(t, "é", 0, api.ErrForm)
	refuses(t, "_a", 0, api.ErrForm)
	refuses(t, "a\u212a", 1, api.ErrForm) // the sign of kelvin, whose small letter is a k
}

func TestSizeOfNames(t *testing.T) { // P6.1
	for size := 1; size <= 40; size++ {
		s := strings.Repeat("L", size-1) + "9"
		if size == 1 {
			s = "L"
		}
		if size <= 16 {
			tokensAre(t, " "+s+" x", name(strings.ToLower(s), 1), name("x", size+2))
		} else {
			refuses(t, " "+s+" x", 1, api.ErrForm)
		}
	}
	refuses(t, long(4096), 0, api.ErrForm)
}

func TestNumbers(t *testing.T) { // P6.1
	for _, i := range []int64{0, 1, 9, 10, 255, 1 << 31, 1 << 32, 999999999999999999, math.MaxInt64 - 1, math.MaxInt64} {
		digits := strconv.FormatInt(i, 10)
		for _, zeros := range []int{0, 1, 2, 30, 4000} {
			tokensAre(t, strings.Repeat("0", zeros)+digits, number(i, 0))
		}
	}
	for _, s := range []string{"9223372036854775808", "9223372036854775810", "10000000000000000000", "18446744073709551615", "18446744073709551616", "18446744073709551617", "36893488147419103233", strings.Repeat("9", 4096), "1" + strings.Repeat("0", 64)} {
		refuses(t, s, 0, api.ErrOver)
		if len(s) < 100 {
			refuses(t, "a, 000"+s+")", 3, api.ErrOver)
		}
	}
	tokensAre(t, "-1", sign("-", 0), number(1, 1))
	tokensAre(t, "+1", sign("+", 0), number(1, 1))
	tokensAre(t, "0x1f", number(0, 0), name("x1f", 1))
	tokensAre(t, "1e5", number(1, 0), name("e5", 1))
	tokensAre(t, "1 2", number(1, 0), number(2, 2))
	refuses(t, "1_000", 1, api.ErrForm)
	refuses(t, "1٣", 1, api.ErrForm) // a digit of another script
}

func TestStrings(t *testing.T) { // P6.1
	all := make([]byte, 256)
	for i := range all {
		all[i] = byte(i)
		s := string([]byte{byte(i)})
		tokensAre(t, quoted(s), text(s, 0))
		tokensAre(t, quoted("a"+s+"b")+"c", text("a"+s+"b", 0), name("c", len(quoted("a"+s+"b"))))
	}
	for _, s := range []string{"", "'", "''", "a'", "'a", "'a'", "''''", "a''b'c", "it's", "NULL", "1", " ", "\n\xff", "ö", "\\", "A", "--", string(all)} {
		tokensAre(t, quoted(s), text(s, 0))
		tokensAre(t, " "+quoted(s)+" "+quoted(s), text(s, 1), text(s, 2+len(quoted(s))))
		refuses(t, "x "+quoted(s)[:len(quoted(s))-1], 2, api.ErrForm)
		refuses(t, quoted(s)+"'", 0, api.ErrForm)
		refuses(t, quoted(s)+" '", len(quoted(s))+1, api.ErrForm)
	}
	for quotes := 1; quotes <= 40; quotes++ {
		if s := strings.Repeat("'", quotes); quotes%2 == 0 {
			tokensAre(t, s, text(s[:quotes/2-1], 0))
		} else {
			refuses(t, s, 0, api.ErrForm)
		}
	}
}

func TestSizeOfStrings(t *testing.T) { // P6.1: of what it says, not of what stands there
	for _, c := range []string{"l", "'", "\x00", "\xff", " ", "A"} {
		tokensAre(t, quoted(strings.Repeat(c, 511)), text(strings.Repeat(c, 511), 0))
		tokensAre(t, quoted(strings.Repeat(c, 512)), text(strings.Repeat(c, 512), 0))
		for _, size := range []int{513, 514, 2000} {
			refuses(t, "x "+quoted(strings.Repeat(c, size)), 2, api.ErrLimit)
		}
	}
	refuses(t, quoted(strings.Repeat("ö", 257)), 0, api.ErrLimit)
	refuses(t, "'"+long(600), 0, api.ErrForm) // it does not end
	refuses(t, "'"+long(4095), 0, api.ErrForm)
	refuses(t, "'"+long(4094)+"'", 0, api.ErrLimit)
}

func TestSymbols(t *testing.T) { // P6.1
	for _, a := range signs {
		tokensAre(t, a, sign(a, 0))
		tokensAre(t, "a"+a+"1", name("a", 0), sign(a, 1), number(1, 1+len(a)))
		for _, b := range signs {
			tokensAre(t, a+" "+b, sign(a, 0), sign(b, len(a)+1))
			for _, c := range signs {
				isPlain(t, a+b+c)
			}
		}
	}
	tokensAre(t, "<=>", sign("<=", 0), sign(">", 2))
	tokensAre(t, "<>=", sign("<>", 0), sign("=", 2))
	tokensAre(t, "><=", sign(">", 0), sign("<=", 1))
	tokensAre(t, "=<", sign("=", 0), sign("<", 1))
	tokensAre(t, "--", sign("-", 0), sign("-", 1))
	tokensAre(t, "||||", sign("||", 0), sign("||", 2))
	refuses(t, "|", 0, api.ErrForm)
	refuses(t, "|||", 2, api.ErrForm)
	refuses(t, "| |", 0, api.ErrForm)
	refuses(t, "!=", 0, api.ErrForm)
	refuses(t, "a|b", 1, api.ErrForm)
}

func TestEachByte(t *testing.T) { // P6.1
	for i := range 256 {
		s := string([]byte{byte(i)})
		isPlain(t, s)
		isPlain(t, "a"+s)
		isPlain(t, s+"1")
		isPlain(t, "a "+s+s+" b")
	}
	for i := range len(noTokens) {
		refuses(t, noTokens[i:i+1], 0, api.ErrForm)
		refuses(t, "1,\n"+noTokens[i:i+1], 3, api.ErrForm)
	}
}

func TestSizeOfTexts(t *testing.T) { // P6.1: ahead of all else
	for _, s := range []string{" ", ";", ",", "'", "9", "l", "\xff"} {
		for _, size := range []int{4097, 5000, 100000} {
			refuses(t, strings.Repeat(s, size), 0, api.ErrLimit)
		}
		isPlain(t, strings.Repeat(s, 4096))
	}
	refuses(t, " a"+strings.Repeat(" ", 4095), 0, api.ErrLimit)
	tokensAre(t, " a"+strings.Repeat(" ", 4094), name("a", 1))
	tokensAre(t, strings.Repeat(" ", 4095)+"a", name("a", 4095))
	refuses(t, strings.Repeat("x", 1<<24), 0, api.ErrLimit)
}

func TestNumberOfTokens(t *testing.T) { // P6.1
	for _, s := range []string{"(", "a ", "1\n", "'' ", "||", "\t<> "} {
		l, at, e := words.Of(strings.Repeat(s, 1024))
		if len(l) != 1024 || at != 0 || e != api.OK || l[1023].At-l[0].At != 1023*len(s) {
			t.Errorf("1024 of %q: %d tokens %d %d", s, len(l), at, e)
		}
	}
	commas := strings.Repeat(",", 1024)
	isPlain(t, commas+strings.Repeat(" ", 3072))
	for _, s := range []string{",", "a", "1", "''", ";", "'a", "|", long(17), "9223372036854775808", quoted(long(513)), "\x00", "é"} { // whatever the token's own faults
		refuses(t, commas+s, 1024, api.ErrLimit)
		refuses(t, commas+" \t\n\r "+s+" "+s, 1029, api.ErrLimit)
		isPlain(t, commas[1:]+s)
		isPlain(t, commas[1:]+s+",")
	}
}

func TestFirstFaultIsTold(t *testing.T) { // P6.1
	faults := map[string]api.Errno{";": api.ErrForm, long(17): api.ErrForm, "9223372036854775808": api.ErrOver, quoted(long(513)): api.ErrLimit}
	for a, e := range faults {
		refuses(t, a, 0, e)
		for b := range faults {
			refuses(t, " "+a+" "+b, 1, e)
			refuses(t, "a = 'x' "+a+" "+b, 8, e)
			refuses(t, a+" 'l", 0, e)
		}
		refuses(t, a+strings.Repeat(" x", 1100), 0, e)
	}
}

// fewBytes: all texts of at most so many of these parts.
func fewBytes(most int, parts []string, visit func(s string)) {
	visit("")
	if most > 0 {
		for _, p := range parts {
			fewBytes(most-1, parts, func(s string) { visit(p + s) })
		}
	}
}

func TestOfAnyText(t *testing.T) { // P6.1
	right := func(s string) { isPlain(t, s) }
	fewBytes(6, []string{"'", "a", " "}, right)
	fewBytes(5, []string{"<", ">", "=", "|", "1"}, right)
	fewBytes(4, []string{"A", "_", "0", "'", "\n", ";", "-", "\x80"}, right)
	parts := append(strings.Fields(keywords), signs...)
	parts = append(parts, "a", "B_1", "x", "0", "77", "9223372036854775807", "'", "''", "'a'", "''''", "'it''s'", " ", "\t", "\r\n", "  ", long(16))
	r := rand.New(rand.NewSource(1))
	for range 20000 {
		s := ""
		for range r.Intn(30) {
			s += parts[r.Intn(len(parts))]
			if r.Intn(200) == 0 {
				s += string([]byte{byte(r.Intn(256))})
			}
		}
		right(s)
	}
}

// written: tokens as a text, with such blanks between each two.
func written(l []api.Word, between func() string) string {
	parts := ""
	for i, w := range l {
		if i > 0 {
			parts += between()
		}
		switch w.Kind {
		case api.WoInt:
			parts += strconv.FormatInt(w.I, 10)
		case api.WoText:
			parts += quoted(w.S)
		default:
			parts += w.S
		}
	}
	return parts
}

// placeless: tokens without their offsets.
func placeless(l []api.Word) []api.Word {
	l = slices.Clone(l)
	for i := range l {
		l[i].At = 0
	}
	return l
}

func TestTokensAreWrittenAndRead(t *testing.T) { // P6.3
	r := rand.New(rand.NewSource(2))
	names := strings.Fields(keywords + " a b_2 z")
	one := func() string { return " " }
	some := func() string {
		s := ""
		for range 1 + r.Intn(3) {
			s += string(blanks[r.Intn(4)])
		}
		return s
	}
	for range 3000 {
		var l []api.Word
		for range r.Intn(40) {
			switch r.Intn(4) {
			case 0:
				l = append(l, name(names[r.Intn(len(names))], 0))
			case 1:
				l = append(l, number(r.Int63()>>r.Intn(63), 0))
			case 2:
				l = append(l, text(strings.Repeat([]string{"", "'", "a'", "\xff", " x"}[r.Intn(5)], r.Intn(4)), 0))
			case 3:
				l = append(l, sign(signs[r.Intn(len(signs))], 0))
			}
		}
		for _, s := range []string{written(l, one), written(l, some), some() + written(l, one) + some()} {
			got, at, e := words.Of(s)
			if !slices.Equal(placeless(got), l) || at != 0 || e != api.OK {
				t.Errorf("Of(%q): %v %d %d, not %v", s, got, at, e, l)
			}
			if again, _, e := words.Of(written(got, one)); !slices.Equal(placeless(again), l) || e != api.OK {
				t.Errorf("Of(%q), written and read again: %v %d", s, again, e)
			}
		}
	}
}

func TestBlanksHaveNoMeaning(t *testing.T) { // P6.3
	const s = "SELECT*FROM t WHERE a<='it''s'AND b>-1"
	plain, _, e := words.Of(s)
	if len(plain) != 13 || e != api.OK {
		t.Fatalf("Of(%q): %v %d", s, plain, e)
	}
	for _, b := range strings.Split(blanks, "") {
		for size := range 4 {
			more := strings.Repeat(b, size)
			wide := strings.NewReplacer("*", more+"*"+more, " ", " "+more, "<=", more+"<="+more, "'AND", "'"+more+"AND", "-", more+"-"+more).Replace(s)
			got, at, e := words.Of(more + wide + more)
			if !slices.Equal(placeless(got), placeless(plain)) || at != 0 || e != api.OK {
				t.Errorf("Of(%q): %v %d %d", wide, got, at, e)
			}
		}
	}
	tokensAre(t, "< =", sign("<", 0), sign("=", 2)) // but within one they have
	tokensAre(t, "a b", name("a", 0), name("b", 2))
	tokensAre(t, "'a' 'b'", text("a", 0), text("b", 4))
}

func TestNameExamples(t *testing.T) { // P6.2
	for s, want := range map[string]bool{"a_1": true, "A": false, "select": false, "1a": false, "_a": false} {
		if words.Name(s) != want {
			t.Errorf("Name(%q): %t", s, !want)
		}
	}
}

func TestName(t *testing.T) { // P6.2
	may := regexp.MustCompile(`^[a-z][a-z0-9_]{0,15}\z`)
	right := func(s string) {
		want := may.MatchString(s) && !slices.Contains(strings.Fields(keywords), s)
		if words.Name(s) != want {
			t.Errorf("Name(%.60q): %t", s, !want)
		}
	}
	fewBytes(4, []string{"a", "z", "A", "Z", "0", "9", "_", "-", " ", "\n", "é", "\xff"}, right)
	for i := range 256 {
		c := string([]byte{byte(i)})
		for _, s := range []string{c, "a" + c, c + "a", "a" + c + "a", long(14) + c, long(15) + c, long(16) + c} {
			right(s)
		}
	}
	for _, s := range strings.Fields(keywords) {
		for _, near := range []string{s, strings.ToUpper(s), strings.ToUpper(s[:1]) + s[1:], s + "s", s + "_", s + "1", s + " ", " " + s, s[1:], s[:len(s)-1], "x" + s} {
			right(near)
		}
	}
	for _, s := range strings.Fields("count sum min max abs length upper lower coalesce random now column exists default true false a\u017f a\u212a") {
		right(s)
	}
	for size := range 40 {
		right(long(size))
	}
	right(long(1 << 24))
}

func TestNamesAreTokens(t *testing.T) { // P6.1, P6.2: a name is a token that is no keyword, in small letters
	fewBytes(5, []string{"a", "s", "B", "_", "1", " "}, func(s string) {
		l, _, e := words.Of(s)
		want := e == api.OK && len(l) == 1 && l[0] == name(s, 0) && !slices.Contains(strings.Fields(keywords), s)
		if words.Name(s) != want {
			t.Errorf("Name(%q): %t, Of: %v %d", s, !want, l, e)
		}
	})
}

func TestAnswersShareNothing(t *testing.T) { // R4, R5
	const s = "SELECT a1<='it''s'"
	want, _, _ := plainOf(s)
	a, _, _ := words.Of(s)
	b, _, _ := words.Of(s)
	clear(a[:cap(a)])
	if c, _, _ := words.Of(s); !slices.Equal(b, want) || !slices.Equal(c, want) {
		t.Errorf("%v and %v after another answer was cleared", b, c)
	}
	place := func(s string) uintptr { return uintptr(unsafe.Pointer(unsafe.StringData(s))) }
	whole := strings.Clone(strings.ToLower(s))
	l, _, _ := words.Of(whole)
	for _, w := range l {
		if w.S != "" && place(w.S) >= place(whole) && place(w.S) < place(whole)+uintptr(len(whole)) {
			t.Errorf("%q lies in the text", w.S)
		}
	}
}
