package files_test

import (
	"bytes"
	"fmt"
	"maps"
	"math"
	"slices"
	"strings"
	"testing"

	"folkmoot/api"
	"folkmoot/files"
)

const most = 8 * api.MaxFile

// disk: a new one.
func disk(t *testing.T, size int) *files.Disk {
	t.Helper()
	d, e := files.New(size)
	if d == nil || e != api.OK {
		t.Fatalf("New(%d): %d", size, e)
	}
	return d
}

// failed: what is left of a disk.
func failed(t *testing.T, d *files.Disk, keep int, names bool) *files.Disk {
	t.Helper()
	c, e := d.Fail(keep, names)
	if c == nil || e != api.OK {
		t.Fatalf("Fail(%d, %v): %d", keep, names, e)
	}
	return c
}

// oks: all of these calls went well.
func oks(t *testing.T, calls ...api.Errno) {
	t.Helper()
	for i, e := range calls {
		if e != api.OK {
			t.Fatalf("call %d: error %d", i, e)
		}
	}
}

// is: a call's error, and the one it should have.
func is(t *testing.T, what string, got, want api.Errno) {
	t.Helper()
	if got != want {
		t.Errorf("%s: error %d, not %d", what, got, want)
	}
}

// told: all names with the bytes of their files, as one text.
func told(t *testing.T, d *files.Disk) string {
	t.Helper()
	var l []string
	for _, name := range d.List() {
		n, e := d.Size(name)
		b, f := d.Read(name, 0, n)
		if e != api.OK || f != api.OK || len(b) != n {
			t.Fatalf("%s: size %d, error %d; %d bytes, error %d", name, n, e, len(b), f)
		}
		l = append(l, name+"="+string(b))
	}
	return strings.Join(l, " ")
}

// has: what a disk should tell.
func has(t *testing.T, what string, d *files.Disk, want string) {
	t.Helper()
	if got := told(t, d); got != want {
		t.Errorf("%s: %q, not %q", what, got, want)
	}
}

// example: the disk of the chapter's examples.
func example(t *testing.T) *files.Disk {
	t.Helper()
	d := disk(t, 10)
	oks(t, d.Create("a"), d.Append("a", []byte("abcde")), d.Sync("a"), d.Append("a", []byte("fg")), d.Names())
	return d
}

func TestExamples(t *testing.T) { // P2.2 to P2.6
	d := example(t)
	oks(t, d.Rename("a", "b"))
	if n := d.Left(); n != 3 {
		t.Errorf("Left: %d", n)
	}
	if l := d.List(); !slices.Equal(l, []string{"b"}) {
		t.Errorf("List: %q", l)
	}
	has(t, "Fail(1, false)", failed(t, d, 1, false), "a=abcdef")
	if n, e := failed(t, d, 0, true).Size("b"); n != 5 || e != api.OK {
		t.Errorf("Size of b after Fail(0, true): %d %d", n, e)
	}
	is(t, "Append of 4", d.Append("b", make([]byte, 4)), api.ErrFull)
	_, e := d.Read("b", 5, 3)
	is(t, "Read behind the end", e, api.ErrShort)
	_, e = d.Read("a", 0, 0)
	is(t, "Read of a", e, api.ErrNone)
	is(t, "Create(A)", d.Create("A"), api.ErrArg)
	is(t, "Create(b)", d.Create("b"), api.ErrThere)
	is(t, "Append of 3", d.Append("b", make([]byte, 3)), api.OK)
}

func TestNew(t *testing.T) { // P2.1
	for size, want := range map[int]api.Errno{
		math.MinInt: api.ErrArg, -1: api.ErrArg, 0: api.ErrArg, 1: api.OK, 2: api.OK, api.MaxFile: api.OK, most - 1: api.OK,
		most: api.OK, most + 1: api.ErrArg, math.MaxInt: api.ErrArg,
	} {
		d, e := files.New(size)
		if e != want || (d == nil) != (want != api.OK) {
			t.Errorf("New(%d): %v, error %d", size, d != nil, e)
		}
		if want != api.OK || d == nil {
			continue
		}
		if n := d.Left(); n != size {
			t.Errorf("Left of New(%d): %d", size, n)
		}
		has(t, "now", d, "")
		has(t, "without names", failed(t, d, 1, false), "")
		has(t, "with names", failed(t, d, 1, true), "")
	}
}

func TestValidNames(t *testing.T) { // P2.2, the chapter's definition of a name
	good := "abcdefghijklmnopqrstuvwxyz0123456789-."
	for c := range 256 {
		want := api.ErrArg
		if strings.IndexByte(good, byte(c)) >= 0 {
			want = api.OK
		}
		one := string([]byte{byte(c)})
		for _, name := range []string{one, "a" + one + "b", one + "x", "x" + one} {
			is(t, fmt.Sprintf("Create(%q)", name), disk(t, 1).Create(name), want)
		}
	}
	for n := range 40 {
		want := api.OK
		if n < 1 || n > api.MaxName {
			want = api.ErrArg
		}
		is(t, fmt.Sprintf("Create of %d bytes", n), disk(t, 1).Create(strings.Repeat("n", n)), want)
	}
	is(t, "Create of a letter beyond a to z", disk(t, 1).Create("ä"), api.ErrArg)
	is(t, "Create of a great text", disk(t, 1).Create(strings.Repeat("n", 1<<20)), api.ErrArg)
}

func TestInvalidNames(t *testing.T) { // P2.2, P2.3, P2.4: ErrArg, and nothing has changed
	d := example(t)
	before := told(t, d)
	for _, name := range []string{"", "A", "a b", "a/b", "a_b", "\x00", "é", "a\x80", "seventeen-letters"} {
		is(t, "Create", d.Create(name), api.ErrArg)
		is(t, "Remove", d.Remove(name), api.ErrArg)
		is(t, "Rename from", d.Rename(name, "b"), api.ErrArg)
		is(t, "Rename to", d.Rename("a", name), api.ErrArg)
		is(t, "Rename to, of none", d.Rename("none", name), api.ErrArg)
		is(t, "Rename, twice", d.Rename(name, name), api.ErrArg)
		is(t, "Append", d.Append(name, nil), api.ErrArg)
		is(t, "Append, too much", d.Append(name, make([]byte, 20)), api.ErrArg)
		is(t, "Sync", d.Sync(name), api.ErrArg)
		b, e := d.Read(name, 0, 0)
		n, f := d.Size(name)
		if len(b) != 0 || n != 0 || e != api.ErrArg || f != api.ErrArg {
			t.Errorf("Read: %q %d, Size: %d %d", b, e, n, f)
		}
	}
	has(t, "after them", d, before)
	has(t, "after them, without names", failed(t, d, 0, false), "a=abcde")
}

func TestMissingNames(t *testing.T) { // P2.2, P2.3, P2.4: ErrNone, and nothing has changed
	d := example(t)
	before := told(t, d)
	for _, name := range []string{"b", "0", "-", "aa", "a.", "zz"} {
		is(t, "Remove", d.Remove(name), api.ErrNone)
		is(t, "Rename", d.Rename(name, "a"), api.ErrNone)
		is(t, "Rename to itself", d.Rename(name, name), api.ErrNone)
		is(t, "Append", d.Append(name, nil), api.ErrNone)
		is(t, "Append, too much", d.Append(name, make([]byte, 20)), api.ErrNone)
		is(t, "Sync", d.Sync(name), api.ErrNone)
		b, e := d.Read(name, 0, 0)
		n, f := d.Size(name)
		if len(b) != 0 || n != 0 || e != api.ErrNone || f != api.ErrNone {
			t.Errorf("Read: %q %d, Size: %d %d", b, e, n, f)
		}
		_, e = d.Read(name, 9, 9)
		is(t, "Read, too much", e, api.ErrNone)
	}
	has(t, "after them", d, before)
	has(t, "after them, without names", failed(t, d, 0, false), "a=abcde")
}

func TestCreate(t *testing.T) { // P2.2
	d := disk(t, 10)
	oks(t, d.Create("a"), d.Create("b"), d.Append("a", []byte("xy")), d.Sync("a"))
	has(t, "created", d, "a=xy b=")
	is(t, "Create again", d.Create("a"), api.ErrThere)
	has(t, "created again", d, "a=xy b=")
	oks(t, d.Remove("a"), d.Create("a"))
	has(t, "created anew", d, "a= b=")
	oks(t, d.Append("a", []byte("z")))
	has(t, "created anew, failed", failed(t, d, 0, true), "a= b=")
}

func TestMaxFiles(t *testing.T) { // P2.2
	d := disk(t, 10)
	name := func(i int) string { return fmt.Sprintf("f%d", i) }
	for i := range api.MaxFiles {
		oks(t, d.Create(name(i)))
	}
	is(t, "Create of one more", d.Create("more"), api.ErrFull)
	is(t, "Create of one of them", d.Create(name(7)), api.ErrThere)
	is(t, "Create of an invalid name", d.Create("More"), api.ErrArg)
	if l := d.List(); len(l) != api.MaxFiles || slices.Contains(l, "more") {
		t.Errorf("List: %q", l)
	}
	oks(t, d.Rename(name(7), "more"))
	is(t, "Create of the old name", d.Create(name(7)), api.ErrFull)
	oks(t, d.Names())
	c := failed(t, d, 0, false)
	is(t, "Create after Fail", c.Create(name(7)), api.ErrFull)
	oks(t, c.Remove("more"), c.Create(name(7)))
	is(t, "Create of one more after Fail", c.Create("more"), api.ErrFull)
	oks(t, d.Rename(name(8), name(9)), d.Create("last")) // two names became one
	is(t, "Create of one more at last", d.Create(name(8)), api.ErrFull)
}

func TestRemove(t *testing.T) { // P2.2
	d := disk(t, 10)
	oks(t, d.Create("a"), d.Create("b"), d.Create("c"), d.Append("b", []byte("b")), d.Append("c", []byte("cc")), d.Remove("b"))
	has(t, "removed", d, "a= c=cc")
	is(t, "Remove again", d.Remove("b"), api.ErrNone)
	if n := d.Left(); n != 8 {
		t.Errorf("Left: %d", n)
	}
	oks(t, d.Remove("c"), d.Remove("a"))
	has(t, "all removed", d, "")
}

func TestRename(t *testing.T) { // P2.2
	d := disk(t, 20)
	oks(t, d.Create("a"), d.Create("m"), d.Create("z"), d.Append("a", []byte("aa")), d.Append("m", []byte("m")), d.Append("z", []byte("zzz")))
	oks(t, d.Rename("m", "m"))
	has(t, "to itself", d, "a=aa m=m z=zzz")
	oks(t, d.Rename("m", "zz"))
	has(t, "to a later name", d, "a=aa z=zzz zz=m")
	oks(t, d.Rename("zz", "0"))
	has(t, "to an earlier name", d, "0=m a=aa z=zzz")
	oks(t, d.Rename("a", "z"))
	has(t, "to a later one that is there", d, "0=m z=aa")
	if n := d.Left(); n != 17 {
		t.Errorf("Left: %d", n)
	}
	oks(t, d.Append("z", []byte("+")), d.Rename("z", "0"))
	has(t, "to an earlier one that is there", d, "0=aa+")
	is(t, "Rename of one that is gone", d.Rename("z", "0"), api.ErrNone)
	oks(t, d.Create("z"))
	has(t, "the old name anew", d, "0=aa+ z=")
}

func TestDurableIsOfTheFile(t *testing.T) { // P2.2, P2.6: whatever the file's name
	d := disk(t, 20)
	oks(t, d.Create("a"), d.Create("b"), d.Append("a", []byte("aa")), d.Append("b", []byte("bb")), d.Sync("a"), d.Rename("a", "b"), d.Append("b", []byte("+")), d.Create("a"), d.Append("a", []byte("n")))
	has(t, "durable bytes move", failed(t, d, 0, true), "a= b=aa")
	oks(t, d.Names(), d.Rename("b", "c"), d.Append("c", []byte("!")), d.Sync("c"))
	has(t, "synced by another name", failed(t, d, 0, false), "a= b=aa+!")
	oks(t, d.Rename("a", "b"), d.Append("b", []byte("m")), d.Sync("b"), d.Create("a"), d.Append("a", []byte("other")), d.Sync("a"))
	has(t, "names changed round", failed(t, d, 0, false), "a=nm b=aa+!")
	has(t, "names changed round, with them", failed(t, d, 0, true), "a=other b=nm c=aa+!")
}

func TestAppend(t *testing.T) { // P2.3
	d := disk(t, 10)
	oks(t, d.Create("a"), d.Create("b"), d.Append("a", []byte("ab")), d.Append("a", nil), d.Append("a", []byte{}), d.Append("b", []byte{0, 255}), d.Append("a", []byte("cd")))
	has(t, "appended", d, "a=abcd b=\x00\xff")
	is(t, "one too many", d.Append("b", make([]byte, 5)), api.ErrFull)
	is(t, "far too many", d.Append("b", make([]byte, 500)), api.ErrFull)
	has(t, "unchanged", d, "a=abcd b=\x00\xff")
	if n := d.Left(); n != 4 {
		t.Errorf("Left: %d", n)
	}
	oks(t, d.Append("b", []byte("1234")))
	is(t, "one byte on a full disk", d.Append("a", []byte("x")), api.ErrFull)
	is(t, "none on a full disk", d.Append("a", nil), api.OK)
	has(t, "full", d, "a=abcd b=\x00\xff1234")
}

func TestMaxFile(t *testing.T) { // P2.3
	d := disk(t, most)
	oks(t, d.Create("a"), d.Create("b"), d.Append("a", []byte("x")))
	is(t, "MaxFile and one", d.Append("a", make([]byte, api.MaxFile)), api.ErrFull)
	is(t, "MaxFile and one at once", d.Append("b", make([]byte, api.MaxFile+1)), api.ErrFull)
	oks(t, d.Append("a", make([]byte, api.MaxFile-1)), d.Append("a", nil), d.Append("b", make([]byte, api.MaxFile)))
	is(t, "one more", d.Append("b", []byte("x")), api.ErrFull)
	if n := d.Left(); n != 6*api.MaxFile {
		t.Errorf("Left: %d", n)
	}
	if n, e := d.Size("a"); n != api.MaxFile || e != api.OK {
		t.Errorf("Size: %d %d", n, e)
	}
	if b, e := d.Read("a", 0, api.MaxFile); len(b) != api.MaxFile || b[0] != 'x' || e != api.OK {
		t.Errorf("Read: %d bytes, error %d", len(b), e)
	}
}

func TestRead(t *testing.T) { // P2.3
	d := disk(t, 100)
	all := "0123456789"
	oks(t, d.Create("a"), d.Append("a", []byte(all)), d.Create("e"))
	for at := -3; at < 14; at++ {
		for n := -3; n < 14; n++ {
			b, e := d.Read("a", at, n)
			switch {
			case at < 0 || n < 0:
				is(t, fmt.Sprintf("Read(%d, %d)", at, n), e, api.ErrArg)
			case at+n > len(all):
				is(t, fmt.Sprintf("Read(%d, %d)", at, n), e, api.ErrShort)
			case e != api.OK || string(b) != all[at:at+n]:
				t.Errorf("Read(%d, %d): %q, error %d", at, n, b, e)
			}
			if e != api.OK && len(b) != 0 {
				t.Errorf("Read(%d, %d): %q beside error %d", at, n, b, e)
			}
		}
	}
	for _, c := range []struct {
		name  string
		at, n int
		want  api.Errno
	}{
		{"a", math.MaxInt, math.MaxInt, api.ErrShort},
		{"a", 1, math.MaxInt, api.ErrShort},
		{"a", math.MaxInt, 1, api.ErrShort},
		{"a", math.MaxInt, 0, api.ErrShort},
		{"a", math.MinInt, math.MinInt, api.ErrArg},
		{"a", math.MinInt, 5, api.ErrArg},
		{"a", 20, -1, api.ErrArg},
		{"b", -1, 0, api.ErrArg},
		{"b", 0, -1, api.ErrArg},
		{"B", -1, 0, api.ErrArg},
		{"b", 0, 1, api.ErrNone},
		{"e", 0, 0, api.OK},
		{"e", 0, 1, api.ErrShort},
	} {
		b, e := d.Read(c.name, c.at, c.n)
		if e != c.want || len(b) != 0 {
			t.Errorf("Read(%s, %d, %d): %q, error %d, not %d", c.name, c.at, c.n, b, e, c.want)
		}
	}
}

func TestSize(t *testing.T) { // P2.3
	d := disk(t, 100)
	oks(t, d.Create("a"), d.Create("b"))
	for n := range 12 {
		got, e := d.Size("a")
		if got != n || e != api.OK {
			t.Errorf("Size: %d %d, not %d", got, e, n)
		}
		oks(t, d.Append("a", []byte("x")))
	}
	if n, e := d.Size("b"); n != 0 || e != api.OK {
		t.Errorf("Size: %d %d", n, e)
	}
}

func TestSync(t *testing.T) { // P2.4
	d := disk(t, 100)
	oks(t, d.Create("a"), d.Create("b"), d.Names(), d.Append("a", []byte("12")), d.Append("b", []byte("34")))
	has(t, "not synced", failed(t, d, 0, false), "a= b=")
	oks(t, d.Sync("a"))
	has(t, "one synced", failed(t, d, 0, false), "a=12 b=")
	oks(t, d.Append("a", []byte("5")), d.Append("b", []byte("6")), d.Sync("b"))
	has(t, "the other synced", failed(t, d, 0, true), "a=12 b=346")
	oks(t, d.Sync("a"), d.Sync("a"))
	has(t, "both synced", failed(t, d, 0, true), "a=125 b=346")
	oks(t, d.Create("c"), d.Append("c", []byte("7")), d.Sync("c"))
	has(t, "bytes are synced, not names", failed(t, d, 9, false), "a=125 b=346")
}

func TestNames(t *testing.T) { // P2.4
	d := disk(t, 100)
	oks(t, d.Create("a"), d.Append("a", []byte("x")), d.Names())
	has(t, "names are durable, not bytes", failed(t, d, 0, false), "a=")
	oks(t, d.Create("b"), d.Remove("a"))
	has(t, "as at the last call", failed(t, d, 0, false), "a=")
	oks(t, d.Names())
	has(t, "as at this call", failed(t, d, 9, false), "b=")
	oks(t, d.Rename("b", "c"), d.Names(), d.Names())
	has(t, "twice", failed(t, d, 9, false), "c=")
	oks(t, d.Remove("c"), d.Names())
	has(t, "none any more", failed(t, d, 9, false), "")
}

func TestNamesAtEveryPlace(t *testing.T) { // P2.4: what comes after Names leaves the durable directory as it is
	names := []string{"b", "d", "f", "h"}
	for _, gone := range names {
		for _, to := range []string{"a", "b", "c", "d", "e", "f", "g", "h", "i"} {
			d := disk(t, 100)
			for _, name := range names {
				oks(t, d.Create(name), d.Append(name, []byte(name)), d.Sync(name))
			}
			oks(t, d.Names(), d.Rename(gone, to))
			has(t, "renamed", failed(t, d, 0, false), "b=b d=d f=f h=h")
			oks(t, d.Remove(to))
			has(t, "removed", failed(t, d, 0, false), "b=b d=d f=f h=h")
			if e := d.Create("b"); e != api.OK && e != api.ErrThere {
				t.Errorf("Create: %d", e)
			}
			oks(t, d.Create("0"))
			has(t, "created", failed(t, d, 0, false), "b=b d=d f=f h=h")
		}
	}
}

func TestList(t *testing.T) { // P2.5
	rising := []string{"-", "--", "-a", ".", ".-", "0", "10", "2", "9", "a", "a-", "a.", "a0", "aa", "ab", "b", "z", "zzzzzzzzzzzzzzzz"}
	for step := 1; step < len(rising); step++ {
		d := disk(t, 1)
		if l := d.List(); len(l) != 0 {
			t.Errorf("List: %q", l)
		}
		for first := range step {
			for i := first; i < len(rising); i += step {
				oks(t, d.Create(rising[len(rising)-1-i]))
			}
		}
		if l := d.List(); !slices.Equal(l, rising) {
			t.Errorf("List: %q", l)
		}
	}
}

func TestLeft(t *testing.T) { // P2.5
	d := disk(t, 20)
	left := func(what string, d *files.Disk, want int) {
		t.Helper()
		if n := d.Left(); n != want {
			t.Errorf("%s: %d left, not %d", what, n, want)
		}
	}
	oks(t, d.Create("a"), d.Create("b"))
	left("created", d, 20)
	oks(t, d.Append("a", make([]byte, 8)), d.Append("b", make([]byte, 5)))
	left("appended", d, 7)
	oks(t, d.Sync("a"), d.Sync("b"), d.Names())
	left("synced", d, 7)
	oks(t, d.Rename("a", "b"))
	left("renamed", d, 12)
	oks(t, d.Append("b", make([]byte, 12)))
	left("full", d, 0)
	left("unsynced bytes lost", failed(t, d, 0, true), 12)
	oks(t, d.Remove("b"))
	left("empty", d, 20)
}

func TestMoreThanThereIs(t *testing.T) { // P2.5, P2.6: a removed file comes back
	d := disk(t, 10)
	oks(t, d.Create("a"), d.Create("b"), d.Names(), d.Append("a", make([]byte, 10)), d.Sync("a"), d.Remove("a"), d.Append("b", make([]byte, 4)), d.Sync("b"))
	c := failed(t, d, 0, false)
	if n, m := d.Left(), c.Left(); n != 6 || m != 0 {
		t.Errorf("Left: %d, then %d", n, m)
	}
	is(t, "none to a disk that is too full", c.Append("a", nil), api.OK)
	is(t, "one to it", c.Append("b", []byte("x")), api.ErrFull)
	oks(t, c.Sync("a"), c.Create("c"), c.Remove("b"))
	if n := c.Left(); n != 0 {
		t.Errorf("Left: %d", n)
	}
	oks(t, c.Remove("a"), c.Append("c", make([]byte, 10)))
}

func TestFailErrors(t *testing.T) { // P2.6
	d := example(t)
	for _, keep := range []int{-1, -2, math.MinInt} {
		for _, names := range []bool{false, true} {
			c, e := d.Fail(keep, names)
			if c != nil || e != api.ErrArg {
				t.Errorf("Fail(%d, %v): %v, error %d", keep, names, c != nil, e)
			}
		}
	}
	has(t, "unchanged", d, "a=abcdefg")
}

func TestFailKeeps(t *testing.T) { // P2.6
	d := disk(t, 100)
	oks(t, d.Create("a"), d.Create("b"), d.Create("c"), d.Names(), d.Append("a", []byte("12")), d.Sync("a"), d.Append("a", []byte("345")), d.Append("b", []byte("6789")), d.Sync("b"), d.Append("c", []byte("x")))
	for keep, want := range map[int]string{
		0: "a=12 b=6789 c=", 1: "a=123 b=6789 c=x", 2: "a=1234 b=6789 c=x", 3: "a=12345 b=6789 c=x", 4: "a=12345 b=6789 c=x",
		math.MaxInt - 1: "a=12345 b=6789 c=x", math.MaxInt: "a=12345 b=6789 c=x",
	} {
		for _, names := range []bool{false, true} {
			c := failed(t, d, keep, names)
			has(t, "kept", c, want)
			has(t, "kept, failed again", failed(t, c, 0, false), want)
			has(t, "kept, failed with names", failed(t, c, 0, true), want)
		}
	}
	oks(t, d.Remove("a"))
	has(t, "of a file that was removed", failed(t, d, 2, false), "a=1234 b=6789 c=x")
	has(t, "the disk itself", d, "b=6789 c=x")
}

func TestFailedDiskGoesOn(t *testing.T) { // P2.6
	d := example(t)
	oks(t, d.Create("n"))
	for _, names := range []bool{false, true} {
		more := ""
		if names {
			more = " n="
		}
		c := failed(t, d, 1, names)
		if n := c.Left(); n != 4 {
			t.Errorf("Left: %d", n)
		}
		is(t, "more than its size", c.Append("a", make([]byte, 5)), api.ErrFull)
		oks(t, c.Append("a", []byte("+-")))
		has(t, "bytes that come then are not durable", failed(t, c, 0, false), "a=abcdef"+more)
		has(t, "one of them is kept", failed(t, c, 1, false), "a=abcdef+"+more)
		oks(t, c.Sync("a"), c.Rename("a", "b"))
		has(t, "its names are durable", failed(t, c, 0, false), "a=abcdef+-"+more)
		has(t, "its new name is not", failed(t, c, 0, true), "b=abcdef+-"+more)
	}
	has(t, "the disk itself", d, "a=abcdefg n=")
	has(t, "the disk itself, failed", failed(t, d, 0, false), "a=abcde")
	has(t, "the disk itself, failed with names", failed(t, d, 0, true), "a=abcde n=")
}

func TestFailedDiskStandsAlone(t *testing.T) { // P2.6, R5
	d := example(t)
	with, without := failed(t, d, 2, true), failed(t, d, 2, false)
	oks(t, with.Append("a", []byte("1")), without.Append("a", []byte("2")), d.Append("a", []byte("3")), d.Sync("a"))
	has(t, "with names", with, "a=abcdefg1")
	has(t, "without", without, "a=abcdefg2")
	has(t, "the disk", d, "a=abcdefg3")
	oks(t, with.Remove("a"), without.Rename("a", "b"), with.Create("c"), with.Names())
	has(t, "with names", with, "c=")
	has(t, "without", without, "b=abcdefg2")
	has(t, "the disk", d, "a=abcdefg3")
	has(t, "the disk, failed", failed(t, d, 0, false), "a=abcdefg3")
	other := disk(t, 10)
	oks(t, other.Create("a"))
	has(t, "another one", other, "a=")
}

// step: one call of those that change a file as a whole.
type step struct {
	what string
	do   func(d *files.Disk) api.Errno
}

func TestOldBytesOrNewOnes(t *testing.T) { // P2.7
	steps := []step{
		{"Create", func(d *files.Disk) api.Errno { return d.Create("new") }},
		{"Append", func(d *files.Disk) api.Errno { return d.Append("new", []byte("ne")) }},
		{"Append", func(d *files.Disk) api.Errno { return d.Append("new", []byte("w")) }},
		{"Sync", func(d *files.Disk) api.Errno { return d.Sync("new") }},
		{"Rename", func(d *files.Disk) api.Errno { return d.Rename("new", "old") }},
		{"Names", func(d *files.Disk) api.Errno { return d.Names() }},
	}
	d := disk(t, 100)
	oks(t, d.Create("old"), d.Append("old", []byte("old")), d.Sync("old"), d.Names())
	for i, s := range steps {
		oks(t, s.do(d))
		for keep := range 5 {
			for _, names := range []bool{false, true} {
				want := "old"
				if s.what == "Names" || s.what == "Rename" && names {
					want = "new"
				}
				b, e := failed(t, d, keep, names).Read("old", 0, 3)
				if string(b) != want || e != api.OK {
					t.Errorf("step %d, Fail(%d, %v): %q, error %d, not %q", i, keep, names, b, e, want)
				}
			}
		}
	}
}

func TestRemovedComesBack(t *testing.T) { // P2.7
	d := disk(t, 100)
	oks(t, d.Create("a"), d.Append("a", []byte("abc")), d.Sync("a"), d.Append("a", []byte("de")), d.Names(), d.Remove("a"))
	has(t, "removed", d, "")
	has(t, "comes back", failed(t, d, 0, false), "a=abc")
	has(t, "comes back, with more", failed(t, d, 1, false), "a=abcd")
	has(t, "stays away", failed(t, d, 1, true), "")
	oks(t, d.Create("a"), d.Append("a", []byte("new")), d.Sync("a"))
	has(t, "the old one comes back", failed(t, d, 0, false), "a=abc")
	oks(t, d.Names())
	has(t, "not any more", failed(t, d, 9, false), "a=new")
}

func TestNone(t *testing.T) { // R3
	for what, d := range map[string]*files.Disk{"nil": nil, "zero": {}} {
		for _, name := range []string{"a", "A", ""} {
			b, e := d.Read(name, -1, 5)
			n, f := d.Size(name)
			if len(b) != 0 || n != 0 || e != api.ErrNil || f != api.ErrNil {
				t.Errorf("%s: Read: %q %d, Size: %d %d", what, b, e, n, f)
			}
			_, e = d.Read(name, 0, 0)
			for i, e := range []api.Errno{e, d.Create(name), d.Remove(name), d.Rename(name, "b"), d.Rename("b", name), d.Append(name, []byte("x")), d.Sync(name), d.Names()} {
				is(t, fmt.Sprintf("%s, call %d", what, i), e, api.ErrNil)
			}
		}
		for _, keep := range []int{-1, 0, 1} {
			c, e := d.Fail(keep, keep > 0)
			if c != nil || e != api.ErrNil {
				t.Errorf("%s: Fail(%d): %v, error %d", what, keep, c != nil, e)
			}
		}
		if l, n := d.List(), d.Left(); len(l) != 0 || n != 0 {
			t.Errorf("%s: List %q, Left %d", what, l, n)
		}
	}
}

func TestNewMemory(t *testing.T) { // R4
	d := disk(t, 1000)
	room := bytes.Repeat([]byte{77}, 64)
	oks(t, d.Create("a"), d.Create("b"), d.Append("a", room[:8]), d.Append("a", room[:8]), d.Append("b", room[:8]))
	if !bytes.Equal(room, bytes.Repeat([]byte{77}, 64)) {
		t.Errorf("Append wrote behind its argument: %v", room)
	}
	clear(room)
	want := "a=" + strings.Repeat("M", 16) + " b=" + strings.Repeat("M", 8)
	has(t, "Append keeps contents", d, want)
	for _, n := range []int{0, 3, 16} {
		b, e := d.Read("a", 0, n)
		oks(t, e)
		clear(b[:cap(b)])
		has(t, "Read gives new memory", d, want)
	}
	one, e := d.Read("a", 0, 5)
	two, f := d.Read("a", 0, 5)
	oks(t, e, f)
	clear(one[:cap(one)])
	if string(two) != "MMMMM" {
		t.Errorf("two results share memory: %q", two)
	}
	c := failed(t, d, 0, true)
	b, e := c.Read("a", 0, 0)
	oks(t, e, c.Append("a", []byte("xyz")))
	clear(b[:cap(b)])
	has(t, "Append after Fail", c, "a=xyz b=")
	has(t, "the disk itself", d, want)
	l, again := d.List(), d.List()
	clear(l[:cap(l)])
	if !slices.Equal(again, []string{"a", "b"}) || !slices.Equal(d.List(), again) {
		t.Errorf("List gave %q, then %q", again, d.List())
	}
}

// plainFile and plain: a disk worked out by another way than the program's, by maps, word by word after the promises.
type plainFile struct{ all, durable string }

type plain struct {
	size      int
	dir, kept map[string]*plainFile
}

func (p *plain) left() int {
	n := p.size
	for _, f := range p.dir {
		n -= len(f.all)
	}
	return max(0, n)
}

// told: as of a disk.
func (p *plain) told() string {
	var l []string
	for _, name := range slices.Sorted(maps.Keys(p.dir)) {
		l = append(l, name+"="+p.dir[name].all)
	}
	return strings.Join(l, " ")
}

func (p *plain) fail(keep int, names bool) *plain {
	c := &plain{size: p.size, dir: map[string]*plainFile{}}
	from := p.kept
	if names {
		from = p.dir
	}
	for name, f := range from {
		all := f.durable
		for i := len(all); i < len(f.all) && i < len(f.durable)+keep; i++ {
			all += f.all[i : i+1]
		}
		c.dir[name] = &plainFile{all, all}
	}
	c.kept = maps.Clone(c.dir)
	return c
}

// do: one call of both, told by three numbers; its errors.
func (p *plain) do(d *files.Disk, call, one, two int) (got, want api.Errno) {
	names := []string{"a", "b.", "c-d", "0", "zz", "Z"}
	name, other := names[one%len(names)], names[two%len(names)]
	f := p.dir[name]
	switch {
	case name == "Z" || call == 2 && other == "Z":
		want = api.ErrArg
	case f == nil:
		want = api.ErrNone
	}
	switch call {
	case 0:
		got = d.Create(name)
		if want == api.ErrNone {
			want = api.OK
			p.dir[name] = &plainFile{}
		} else if want == api.OK {
			want = api.ErrThere
		}
	case 1:
		got = d.Remove(name)
		if want == api.OK {
			delete(p.dir, name)
		}
	case 2:
		got = d.Rename(name, other)
		if want == api.OK {
			delete(p.dir, name)
			p.dir[other] = f
		}
	case 3, 4, 5:
		b := strings.Repeat(string(rune('a'+two%26)), two%9)
		got = d.Append(name, []byte(b))
		if want == api.OK && len(b) > p.left() {
			want = api.ErrFull
		} else if want == api.OK {
			f.all += b
		}
	case 6:
		got = d.Sync(name)
		if want == api.OK {
			f.durable = f.all
		}
	case 7:
		got, want = d.Names(), api.OK
		p.kept = maps.Clone(p.dir)
	}
	return got, want
}

func TestManyCalls(t *testing.T) { // P2.1 to P2.6
	seed := uint64(1)
	next := func(n int) int {
		seed = seed*6364136223846793005 + 1442695040888963407
		return int(seed >> 33 % uint64(n))
	}
	for run := range 200 {
		size := 1 + next(60)
		d, p := disk(t, size), &plain{size: size, dir: map[string]*plainFile{}}
		for at := range 60 {
			got, want := p.do(d, next(8), next(6), next(60))
			if got != want {
				t.Fatalf("run %d, call %d: error %d, not %d", run, at, got, want)
			}
			if told(t, d) != p.told() || d.Left() != p.left() {
				t.Fatalf("run %d, call %d: %q, %d left; not %q, %d left", run, at, told(t, d), d.Left(), p.told(), p.left())
			}
			keep, names := next(5), next(2) == 0
			c, q := failed(t, d, keep, names), p.fail(keep, names)
			if told(t, c) != q.told() || c.Left() != q.left() {
				t.Fatalf("run %d, call %d, Fail(%d, %v): %q, not %q", run, at, keep, names, told(t, c), q.told())
			}
			if next(10) == 0 {
				d, p = c, q
			}
		}
	}
}
