package scopes_test

import (
	"fmt"
	"math/rand"
	"reflect"
	"slices"
	"strings"
	"testing"
	"unsafe"

	"folkmoot/api"
	"folkmoot/scopes"
)

// table of columns with these names, with blanks between them.
func table(name, columns string) api.Table {
	t := api.Table{Name: name}
	for _, c := range strings.Fields(columns) {
		t.Columns = append(t.Columns, api.Column{Name: c, Type: api.VkInt})
	}
	return t
}

// scope of tables; the strings, with commas between them, are their names in a statement.
func scope(t *testing.T, as string, tables ...api.Table) *scopes.Scope {
	t.Helper()
	s, e := scopes.New(tables, strings.Split(as, ","))
	if s == nil || e != api.OK {
		t.Fatalf("%+v %q: %v %d", tables, as, s, e)
	}
	return s
}

// example: the scope of the chapter's examples.
func example(t *testing.T) *scopes.Scope {
	t.Helper()
	return scope(t, ",v", table("t", "id a"), table("u", "a b"))
}

// finds: a name means that column.
func finds(t *testing.T, s *scopes.Scope, table, name string, want int) {
	t.Helper()
	if at, e := s.Find(table, name); at != want || e != api.OK {
		t.Errorf("%q %q: %d %d, not %d", table, name, at, e, want)
	}
}

// misses: a name means nothing, or more than one column.
func misses(t *testing.T, s *scopes.Scope, table, name string) {
	t.Helper()
	if at, e := s.Find(table, name); at != 0 || e != api.ErrName {
		t.Errorf("%q %q: %d %d", table, name, at, e)
	}
}

// named: a scope's columns have these names.
func named(t *testing.T, s *scopes.Scope, want string) {
	t.Helper()
	if l := s.Names(); !slices.Equal(l, strings.Fields(want)) {
		t.Errorf("%q, not %q", l, want)
	}
}

// refused: there is no such scope.
func refused(t *testing.T, tables []api.Table, as []string, want api.Errno) {
	t.Helper()
	if s, e := scopes.New(tables, as); s != nil || e != want {
		t.Errorf("%+v %q: %v %d, not %d", tables, as, s, e, want)
	}
}

func TestExamples(t *testing.T) { // P9.1 to P9.4
	s := example(t)
	finds(t, s, "", "id", 0)
	misses(t, s, "", "a")
	finds(t, s, "v", "a", 2)
	misses(t, s, "u", "a")
	named(t, s, "id a a b")
	b := col("b")
	checks(t, s, call("sum", b), true, api.OK)
	checks(t, s, call("sum", b), false, api.ErrMany)
	checks(t, s, call("sum", call("max", b)), true, api.ErrMany)
	checks(t, s, call("f", b), true, api.ErrName)
	checks(t, s, call("abs", b, b), false, api.ErrArg)
	one := table("t", "id a")
	refused(t, []api.Table{one, one}, []string{"", ""}, api.ErrName)
	refused(t, []api.Table{one, one}, nil, api.ErrArg)
}

// As many strings as tables, and at most MaxFrom of them, are required ahead of different aliases. (P9.1)
func TestNumberOfTables(t *testing.T) {
	same := table("t", "a")
	for tables := range 7 {
		for strings := range 7 {
			l, as := slices.Repeat([]api.Table{same}, tables), slices.Repeat([]string{"v"}, strings)
			switch {
			case tables != strings || tables > api.MaxFrom:
				refused(t, l, as, api.ErrArg)
			case tables > 1:
				refused(t, l, as, api.ErrName)
			default:
				if s, e := scopes.New(l, as); s == nil || e != api.OK || len(s.Names()) != tables {
					t.Errorf("%d %d: %v %d", tables, strings, s, e)
				}
			}
		}
	}
	if s, e := scopes.New([]api.Table{}, []string{}); s == nil || e != api.OK {
		t.Error(s, e)
	}
	refused(t, slices.Repeat([]api.Table{same}, 4), []string{"a", "b", "c", "d"}, api.ErrArg)
	refused(t, nil, []string{""}, api.ErrArg)
	refused(t, []api.Table{same}, []string{}, api.ErrArg)
}

// Each table with each alias, or none, beside each other one. (P9.1, P9.2)
func TestAliases(t *testing.T) {
	words := []string{"", "t", "u", "T", "v"}
	var tables []api.Table
	var given, aliases []string
	for _, name := range words {
		for _, as := range words {
			alias := as
			if as == "" {
				alias = name
			}
			tables, given, aliases = append(tables, table(name, "a")), append(given, as), append(aliases, alias)
		}
	}
	for i := range tables {
		for j := range tables {
			l, as := []api.Table{tables[i], table("w", "a"), tables[j]}, []string{given[i], "", given[j]}
			if aliases[i] == aliases[j] {
				refused(t, l, as, api.ErrName)
				refused(t, l[:1:1], append(as, "w"), api.ErrArg)
				continue
			}
			s := scope(t, strings.Join(as, ","), l...)
			for at, alias := range []string{aliases[i], "w", aliases[j]} {
				if alias == "" { // it stands for all tables
					misses(t, s, alias, "a")
				} else {
					finds(t, s, alias, "a", at)
				}
			}
			for _, word := range append(words, "W", "a", "t.") {
				if word != aliases[i] && word != aliases[j] {
					misses(t, s, word, "a")
				}
			}
		}
	}
	refused(t, []api.Table{table("t", "a"), table("u", "a"), table("v", "a")}, []string{"", "x", "x"}, api.ErrName)
	refused(t, []api.Table{table("t", "a"), table("u", "a"), table("v", "a")}, []string{"", "t", ""}, api.ErrName)
}

func TestColumns(t *testing.T) { // P9.2, P9.3
	s := scope(t, ",,", table("t", "a b c"), table("none", ""), table("u", "c d d"))
	named(t, s, "a b c c d d")
	for at, name := range []string{"a", "b", "c"} {
		finds(t, s, "t", name, at)
	}
	finds(t, s, "", "a", 0)
	finds(t, s, "", "b", 1)
	finds(t, s, "u", "c", 3)
	finds(t, s, "u", "d", 4) // the first one of two
	misses(t, s, "", "c")
	misses(t, s, "", "d")
	for _, table := range []string{"", "t", "u", "none", "a"} {
		for _, name := range []string{"", "A", "ab", "a ", "t", "t.a", "e"} {
			misses(t, s, table, name)
		}
	}
	misses(t, s, "t", "d")
	misses(t, s, "u", "a")
	misses(t, s, "none", "a")
	misses(t, s, "T", "a")
}

// A scope takes whatever names there are, and however many. (P9.1 to P9.3, R1)
func TestAnyNames(t *testing.T) {
	long := strings.Repeat("a", 100000)
	wide := table("t", strings.Repeat("a ", 5000)+"b")
	wide.Columns = append(wide.Columns, api.Column{}, api.Column{Name: long, Type: 99})
	s := scope(t, long+",\xff", wide, table("", "\xff"))
	if l := s.Names(); len(l) != 5004 || l[5001] != "" || l[5002] != long || l[5003] != "\xff" {
		t.Error(len(l))
	}
	finds(t, s, long, "a", 0)
	misses(t, s, "", "a")
	finds(t, s, "", "b", 5000)
	finds(t, s, "", "", 5001)
	finds(t, s, long, "", 5001)
	finds(t, s, long, long, 5002)
	finds(t, s, "\xff", "\xff", 5003)
	misses(t, s, long[1:], "a")
}

// wanted: the place of a column as the chapter tells it, of all aliases and names, one after the other.
func wanted(aliases, names []string, table, name string) (int, api.Errno) {
	var l []int
	for i := range names {
		if names[i] == name && (table == "" || aliases[i] == table) {
			l = append(l, i)
		}
	}
	if len(l) == 1 || len(l) > 1 && table != "" {
		return l[0], api.OK
	}
	return 0, api.ErrName
}

func TestManyScopes(t *testing.T) { // P9.1 to P9.3, P9.5
	r := rand.New(rand.NewSource(9))
	letters := []string{"a", "b", "c", "d"}
	for range 2000 {
		var tables []api.Table
		var as, aliases, names []string
		for _, i := range r.Perm(4)[:r.Intn(4)] {
			x := api.Table{Name: letters[i]}
			as = append(as, []string{"", "x" + letters[i]}[r.Intn(2)])
			alias := as[len(as)-1]
			if alias == "" {
				alias = x.Name
			}
			for range r.Intn(4) {
				name := letters[r.Intn(4)]
				x.Columns = append(x.Columns, api.Column{Name: name})
				aliases, names = append(aliases, alias), append(names, name)
			}
			tables = append(tables, x)
		}
		s, e := scopes.New(tables, as)
		if e != api.OK || !slices.Equal(s.Names(), names) {
			t.Fatalf("%+v %q: %d", tables, as, e)
		}
		for _, table := range append([]string{"", "xa", "xb", "xc", "xd", "xe"}, letters...) {
			for _, name := range append([]string{"", "e"}, letters...) {
				at, e := s.Find(table, name)
				if want, fault := wanted(aliases, names, table, name); at != want || e != fault {
					t.Fatalf("%+v %q, %q %q: %d %d", tables, as, table, name, at, e)
				}
				if e == api.OK && s.Names()[at] != name {
					t.Fatalf("%+v: %q is %q", tables, name, s.Names()[at])
				}
			}
		}
	}
}

func TestNoTables(t *testing.T) { // P9.1 to P9.4
	s, e := scopes.New(nil, nil)
	if s == nil || e != api.OK || len(s.Names()) != 0 {
		t.Fatal(s, e)
	}
	misses(t, s, "", "")
	misses(t, s, "", "a")
	misses(t, s, "t", "a")
	checks(t, s, api.Expr{Kind: api.ExLit}, false, api.OK)
	checks(t, s, col("a"), false, api.ErrName)
	checks(t, s, api.Expr{Kind: api.ExCall, Name: "count", Star: true}, true, api.OK)
}

// What does not exist knows nothing, whatever it is asked. (P9.2 to P9.4, R3)
func TestNoScope(t *testing.T) {
	for _, s := range []*scopes.Scope{nil, {}, new(scopes.Scope)} {
		for _, name := range []string{"", "a"} {
			if at, e := s.Find(name, name); at != 0 || e != api.ErrNil {
				t.Error(at, e)
			}
		}
		if l := s.Names(); len(l) != 0 {
			t.Error(l)
		}
		for _, x := range []api.Expr{{}, {Kind: api.ExLit}, col("a"), call("f"), call("sum", col("a"))} {
			checks(t, s, x, true, api.ErrNil)
			checks(t, s, x, false, api.ErrNil)
		}
	}
}

// A scope keeps nothing of what it was made of but the contents, and changes nothing of it; what it hands out is not its own. (R4)
func TestOwnMemory(t *testing.T) {
	spare := []api.Table{table("t", "id a"), table("u", "a b"), table("spare", "x")}
	as := []string{"", "v", "spare"}
	before := fmt.Sprintf("%+v %q", spare, as)
	s, e := scopes.New(spare[:2], as[:2])
	if after := fmt.Sprintf("%+v %q", spare, as); e != api.OK || before != after {
		t.Fatalf("%s, not %s: %d", after, before, e)
	}
	as[1], spare[0].Name, spare[0].Columns[0].Name, spare[1] = "changed", "changed", "changed", api.Table{}
	l := s.Names()
	l = l[:cap(l)]
	for i := range l {
		l[i] = "changed"
	}
	named(t, s, "id a a b")
	finds(t, s, "t", "id", 0)
	finds(t, s, "v", "b", 3)
	misses(t, s, "", "changed")
	misses(t, s, "changed", "id")
}

// stringsIn what a value holds.
func stringsIn(v reflect.Value) (l []string) {
	switch v.Kind() {
	case reflect.String:
		return []string{v.String()}
	case reflect.Pointer:
		return stringsIn(v.Elem())
	case reflect.Struct:
		for i := range v.NumField() {
			l = append(l, stringsIn(v.Field(i))...)
		}
	case reflect.Slice:
		for i := range v.Len() {
			l = append(l, stringsIn(v.Index(i))...)
		}
	}
	return l
}

// Strings are not shared either: neither those that a scope is made of, nor those that it hands out. (R4)
func TestOwnStrings(t *testing.T) {
	tables, as := []api.Table{table("t", "first second"), table("u", "third")}, []string{"", "alias"}
	s, _ := scopes.New(tables, as)
	kept := stringsIn(reflect.ValueOf(s))
	if len(kept) == 0 {
		t.Fatal("nothing is kept")
	}
	seen := map[*byte]string{}
	for _, l := range [][]string{stringsIn(reflect.ValueOf(tables)), as, kept, s.Names(), s.Names()} {
		for _, x := range l {
			if _, ok := seen[unsafe.StringData(x)]; ok && x != "" {
				t.Errorf("%q is shared", x)
			}
		}
		for _, x := range l {
			seen[unsafe.StringData(x)] = x
		}
	}
}

// Scopes of the same tables have nothing to do with each other, nor has a call with those ahead of it. (R5)
func TestApart(t *testing.T) {
	l := []api.Table{table("t", "a b"), table("u", "b c")}
	s, _ := scopes.New(l, []string{"", ""})
	other, _ := scopes.New(l[1:], []string{"t"})
	for range 3 {
		finds(t, s, "t", "b", 1)
		finds(t, other, "t", "b", 0)
		misses(t, s, "", "b")
		finds(t, other, "", "b", 0)
		checks(t, s, call("sum", col("b")), true, api.ErrName)
		checks(t, other, call("sum", col("b")), true, api.OK)
		if !reflect.DeepEqual(s.Names(), []string{"a", "b", "b", "c"}) || len(other.Names()) != 2 {
			t.Error(s.Names(), other.Names())
		}
	}
}
