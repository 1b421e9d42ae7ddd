package journals_test

import (
	"bytes"
	"encoding/binary"
	"fmt"
	"hash/crc32"
	"slices"
	"strings"
	"testing"

	"folkmoot/api"
	"folkmoot/files"
	"folkmoot/journals"
)

const (
	most = 8 * api.MaxFile
	name = "j"
	head = 7
)

// disk: a new one.
func disk(t *testing.T, size int) *files.Disk {
	t.Helper()
	d, e := files.New(size)
	if d == nil || e != api.OK {
		t.Fatalf("New(%d): %d", size, e)
	}
	return d
}

// oks: all of these calls went well.
func oks(t *testing.T, calls ...api.Errno) {
	t.Helper()
	for i, e := range calls {
		if e != api.OK {
			t.Fatalf("call %d: error %d", i, e)
		}
	}
}

// is: a call's error, and the one it should have.
func is(t *testing.T, what string, got, want api.Errno) {
	t.Helper()
	if got != want {
		t.Errorf("%s: error %d, not %d", what, got, want)
	}
}

// same: are these the same records?
func same(a, b [][]byte) bool { return slices.EqualFunc(a, b, bytes.Equal) }

// short: records told in a few letters.
func short(records [][]byte) string {
	var l []string
	for _, r := range records {
		l = append(l, fmt.Sprintf("%d:%.8q", len(r), r))
	}
	return strings.Join(l, " ")
}

// open: the journal of a file that has these records.
func open(t *testing.T, d *files.Disk, want ...[]byte) *journals.Journal {
	t.Helper()
	j, l, e := journals.Open(d, name)
	if j == nil || e != api.OK {
		t.Fatalf("Open: error %d", e)
	}
	if !same(l, want) {
		t.Fatalf("Open: %s; not %s", short(l), short(want))
	}
	return j
}

// bytesOf: all bytes of the file.
func bytesOf(t *testing.T, d *files.Disk) []byte {
	t.Helper()
	n, e := d.Size(name)
	b, f := d.Read(name, 0, n)
	oks(t, e, f)
	return b
}

// failed: what is left of a disk.
func failed(t *testing.T, d *files.Disk, keep int, names bool) *files.Disk {
	t.Helper()
	c, e := d.Fail(keep, names)
	oks(t, e)
	return c
}

// holding: a disk whose file has these bytes.
func holding(t *testing.T, b []byte) *files.Disk {
	t.Helper()
	d := disk(t, most)
	oks(t, d.Create(name), d.Append(name, b))
	return d
}

// pattern: so many bytes, none like its neighbour; seed tells them from others.
func pattern(size, seed int) []byte {
	b := make([]byte, size)
	for i := range b {
		b[i] = byte(i*7 + i>>8 + seed*31 + 1)
	}
	return b
}

// plainPart: a part as the chapter defines it, with the library's checksum and numbers.
func plainPart(kind byte, data []byte) []byte {
	sum := crc32.Checksum(append([]byte{kind}, data...), crc32.MakeTable(crc32.Castagnoli))
	b := binary.BigEndian.AppendUint32(nil, sum)
	b = binary.BigEndian.AppendUint16(b, uint16(len(data)))
	return append(append(b, kind), data...)
}

// plainFile: records as the chapter says how they are written; told by the lengths of the parts.
func plainFile(records ...[]byte) []byte {
	var b []byte
	for _, r := range records {
		for api.Block-len(b)%api.Block <= head {
			b = append(b, 0)
		}
		sizes := []int{min(len(r), api.Block-len(b)%api.Block-head)}
		for rest := len(r) - sizes[0]; rest > 0; rest -= api.Block - head {
			sizes = append(sizes, min(rest, api.Block-head))
		}
		for i, n := range sizes {
			kind := byte(3)
			switch {
			case len(sizes) == 1:
				kind = 1
			case i == 0:
				kind = 2
			case i == len(sizes)-1:
				kind = 4
			}
			b = append(b, plainPart(kind, r[:n])...)
			r = r[n:]
		}
	}
	return b
}

// plainRead: records as the chapter says how they are read; from a list of all parts that are there.
func plainRead(b []byte) (records [][]byte, end int) {
	type found struct {
		kind byte
		data []byte
		end  int
	}
	var l []found
	for at := 0; at+head <= len(b); {
		if at%api.Block >= api.Block-head {
			at++
			continue
		}
		n := int(binary.BigEndian.Uint16(b[at+4:]))
		stop := at + head + n
		if stop > len(b) || (stop-1)/api.Block != at/api.Block || !bytes.Equal(plainPart(b[at+6], b[at+head:stop]), b[at:stop]) {
			break
		}
		l = append(l, found{b[at+6], b[at+head : stop], stop})
		at = stop
	}
	for len(l) > 0 {
		n := 1
		if l[0].kind == 2 {
			for n < len(l) && l[n].kind == 3 {
				n++
			}
			if n++; n > len(l) || l[n-1].kind != 4 {
				break
			}
		} else if l[0].kind != 1 {
			break
		}
		var r []byte
		for _, f := range l[:n] {
			r = append(r, f.data...)
		}
		records, end = append(records, r), l[n-1].end
		l = l[n:]
	}
	return records, end
}

// reads: Open of a file of these bytes returns what it should; and Add, what it should behind that.
func reads(t *testing.T, what string, b []byte) {
	t.Helper()
	want, end := plainRead(b)
	d := holding(t, b)
	j, l, e := journals.Open(d, name)
	if j == nil || e != api.OK || !same(l, want) {
		t.Fatalf("%s: %s, error %d; not %s", what, short(l), e, short(want))
	}
	if e := j.Add([]byte("behind")); (e == api.OK) != (end == len(b)) || e != api.OK && e != api.ErrState {
		t.Fatalf("%s: the records end at %d of %d, Add: error %d", what, end, len(b), e)
	}
}

func TestChecksum(t *testing.T) { // the definitions: the library's checksum is the chapter's
	if sum := crc32.Checksum([]byte("123456789"), crc32.MakeTable(crc32.Castagnoli)); sum != 0xe3069283 {
		t.Errorf("%x", sum)
	}
	d := disk(t, most)
	oks(t, open(t, d).Add([]byte("23456789")))
	if want := plainPart(1, []byte("23456789")); !bytes.Equal(bytesOf(t, d), want) {
		t.Errorf("%v, not %v", bytesOf(t, d), want)
	}
}

func TestExamples(t *testing.T) { // P3.1, P3.2
	d := disk(t, 10000)
	j := open(t, d)
	size := func(want int) {
		t.Helper()
		if n, e := d.Size(name); n != want || e != api.OK {
			t.Errorf("Size: %d, error %d; not %d", n, e, want)
		}
	}
	oks(t, j.Add(nil), j.Add([]byte("a")))
	size(15)
	open(t, d, nil, []byte("a"))
	oks(t, j.Add(pattern(200, 1)))
	size(229)
	is(t, "Sync", j.Sync(), api.OK)
	is(t, "Add of 65537 bytes", j.Add(make([]byte, 65537)), api.ErrLimit)
	oks(t, d.Append(name, []byte{0}))
	is(t, "Add behind a strange byte", j.Add([]byte("b")), api.ErrState)
	k := open(t, d, nil, []byte("a"), pattern(200, 1))
	is(t, "Add of another one", k.Add([]byte("b")), api.ErrState)
	size(230)
}

func TestOpenErrors(t *testing.T) { // P3.1
	for _, bad := range []string{"", "J", "a_b", "a b", "é", "a\x00", "seventeen.letters", strings.Repeat("a", 1000)} {
		for what, d := range map[string]*files.Disk{"nil": nil, "zero": {}} {
			j, l, e := journals.Open(d, bad)
			if j != nil || len(l) != 0 || e != api.ErrNil {
				t.Errorf("%s, %q: %v %q, error %d", what, bad, j != nil, l, e)
			}
		}
		d := disk(t, 10)
		j, l, e := journals.Open(d, bad)
		if j != nil || len(l) != 0 || e != api.ErrArg || len(d.List()) != 0 {
			t.Errorf("%q: %v %q, error %d, files %q", bad, j != nil, l, e, d.List())
		}
	}
	for _, good := range []string{"j", "0", "-", ".", "sixteen.letters-"} {
		d := disk(t, 10)
		j, l, e := journals.Open(d, good)
		if j == nil || len(l) != 0 || e != api.OK || !slices.Equal(d.List(), []string{good}) {
			t.Errorf("%q: %v %q, error %d, files %q", good, j != nil, l, e, d.List())
		}
	}
}

func TestOpenCreates(t *testing.T) { // P3.1
	d := disk(t, 10)
	for i := range api.MaxFiles {
		oks(t, d.Create(fmt.Sprint("f", i)))
	}
	j, l, e := journals.Open(d, name)
	if j != nil || len(l) != 0 || e != api.ErrFull || len(d.List()) != api.MaxFiles {
		t.Errorf("too many files: %v %q, error %d", j != nil, l, e)
	}
	j, l, e = journals.Open(d, "f7")
	if j == nil || len(l) != 0 || e != api.OK {
		t.Errorf("one that is there: %v %q, error %d", j != nil, l, e)
	}
	oks(t, d.Remove("f0"))
	open(t, d)
	d = disk(t, 3)
	oks(t, d.Create("full"), d.Append("full", []byte("abc")))
	is(t, "Add without space", open(t, d).Add(nil), api.ErrFull)
	if b := bytesOf(t, d); len(b) != 0 {
		t.Errorf("a new file: %v", b)
	}
	if l := failed(t, d, 9, false).List(); len(l) != 0 { // Open doesn't call Names
		t.Errorf("durable: %q", l)
	}
}

// TestLayout: two records one behind the other, so that the second one begins at each place of a block and ends at each place.
func TestLayout(t *testing.T) { // P3.1, P3.2
	for one := range 2*api.Block + 3 {
		for _, two := range []int{0, 1, 2, 50, 113, 114, 120, 121, 122, 127, 128, 241, 242, 243, 244, 363, 364, 1000, (one * 37) % 251} {
			records := [][]byte{pattern(one, 1), pattern(two, 2), {}, {9}}
			d := disk(t, most)
			j := open(t, d)
			for i, r := range records {
				oks(t, j.Add(r))
				if want := plainFile(records[:i+1]...); !bytes.Equal(bytesOf(t, d), want) {
					t.Fatalf("records of %d, %d: after %d of them other bytes:\n%v, not\n%v", one, two, i+1, bytesOf(t, d), want)
				}
			}
			open(t, d, records...)
		}
	}
}

func TestFillOfBlocks(t *testing.T) { // the definitions: seven bytes or fewer are filled, eight are not
	for size, want := range map[int]int{112: 126, 113: 127, 114: 7 + 128, 119: 7 + 128, 120: 7 + 128, 121: 7 + 128} {
		d := disk(t, most)
		j := open(t, d)
		oks(t, j.Add(pattern(size, 1)))
		if b := bytesOf(t, d); len(b) != size+head { // only the next one fills
			t.Errorf("%d bytes: a file of %d", size, len(b))
		}
		oks(t, j.Add(nil))
		b := bytesOf(t, d)
		if len(b) != want {
			t.Errorf("%d bytes, then none: a file of %d, not %d", size, len(b), want)
		}
		if fill := b[size+head : len(b)-head]; len(bytes.Trim(fill, "\x00")) != 0 {
			t.Errorf("%d bytes: filled with %v", size, fill)
		}
	}
}

func TestAddErrors(t *testing.T) { // P3.2
	d := disk(t, 200)
	j := open(t, d)
	oks(t, j.Add([]byte("one")))
	before := bytesOf(t, d)
	unchanged := func(what string) {
		t.Helper()
		if !bytes.Equal(bytesOf(t, d), before) {
			t.Errorf("%s changed the file", what)
		}
	}
	is(t, "too long", j.Add(make([]byte, api.MaxRecord+1)), api.ErrLimit)
	is(t, "no space", j.Add(make([]byte, api.MaxRecord)), api.ErrFull)
	is(t, "no space for a header", j.Add(make([]byte, 177)), api.ErrFull) // 10 + 7 + 111, 7 + 66 make 201
	unchanged("an error")
	oks(t, j.Add(make([]byte, 176)))
	if d.Left() != 0 {
		t.Errorf("%d left", d.Left())
	}
	is(t, "none left", j.Add(nil), api.ErrFull)
	j = open(t, d, []byte("one"), make([]byte, 176))
	oks(t, d.Rename(name, "other"))
	is(t, "limit ahead of none", j.Add(make([]byte, api.MaxRecord+1)), api.ErrLimit)
	is(t, "renamed", j.Add(nil), api.ErrNone)
	is(t, "Sync of none", j.Sync(), api.ErrNone)
	oks(t, d.Create(name))
	is(t, "a shorter file", j.Add(nil), api.ErrState)
	is(t, "limit ahead of state", j.Add(make([]byte, api.MaxRecord+1)), api.ErrLimit)
	is(t, "state ahead of full", j.Add(make([]byte, 1000)), api.ErrState)
	is(t, "Sync looks at no length", j.Sync(), api.OK)
	oks(t, d.Remove("other"), d.Append(name, make([]byte, 200)))
	is(t, "a file as long as the journal, no space", j.Add(nil), api.ErrFull)
}

func TestAddUpToTheLimits(t *testing.T) { // P3.2
	d := disk(t, most)
	j := open(t, d)
	var records [][]byte
	for i := 0; ; i++ {
		r := pattern(api.MaxRecord, i)
		e := j.Add(r)
		if want := plainFile(append(records[:i:i], r)...); len(want) > api.MaxFile {
			is(t, "a file that is too long", e, api.ErrFull)
			break
		}
		oks(t, e)
		records = append(records, r)
	}
	open(t, d, records...)
	for j.Add(pattern(8, 1)) == api.OK { // smaller ones still fit
		records = append(records, pattern(8, 1))
	}
	for j.Add(nil) == api.OK {
		records = append(records, nil)
	}
	if b := bytesOf(t, d); api.MaxFile-len(b) > head {
		t.Errorf("a file of %d bytes", len(b))
	}
	open(t, d, records...)
}

func TestSync(t *testing.T) { // P3.2, P3.3
	d := disk(t, most)
	j := open(t, d)
	oks(t, d.Names(), j.Add([]byte("one")), j.Sync(), j.Add([]byte("two")))
	open(t, failed(t, d, 0, false), []byte("one"))
	oks(t, j.Sync())
	open(t, failed(t, d, 0, false), []byte("one"), []byte("two"))
	k := open(t, d, []byte("one"), []byte("two"))
	oks(t, k.Add([]byte("three")), j.Sync()) // it is the file that becomes durable
	open(t, failed(t, d, 0, false), []byte("one"), []byte("two"), []byte("three"))
	is(t, "Add of the first one", j.Add([]byte("four")), api.ErrState)
}

func TestReadCutAndChanged(t *testing.T) { // P3.1
	b := plainFile([]byte("one"), pattern(300, 1), nil, pattern(240, 2), pattern(103, 3), []byte("end"))
	for n := range len(b) + 1 {
		reads(t, fmt.Sprint("cut to ", n), b[:n])
	}
	for at := range b {
		for bit := range 8 {
			c := bytes.Clone(b)
			c[at] ^= 1 << bit
			reads(t, fmt.Sprintf("bit %d of byte %d", bit, at), c)
		}
	}
	for _, from := range []int{1, 7, 10, 121, 128, 256} {
		reads(t, fmt.Sprint("from ", from), b[from:])
	}
}

// TestReadKinds: all rows of up to four parts, of these kinds.
func TestReadKinds(t *testing.T) { // P3.1
	kinds := []byte{1, 2, 3, 4, 0, 5, 255}
	var row func(b []byte, told string, n int)
	row = func(b []byte, told string, n int) {
		reads(t, "kinds"+told, b)
		if n == 0 {
			return
		}
		for _, kind := range kinds {
			row(append(b[:len(b):len(b)], plainPart(kind, pattern(n-1, int(kind)))...), fmt.Sprint(told, " ", kind), n-1)
		}
	}
	row(nil, "", 4)
	for _, c := range []struct {
		kinds string
		want  []string
	}{
		{"1", []string{"a"}},
		{"24", []string{"ab"}},
		{"234", []string{"abc"}},
		{"2333341", []string{"abcdef", "g"}},
		{"3", nil}, {"4", nil}, {"2", nil}, {"23", nil},
		{"11231", []string{"a", "b"}},
		{"12241", []string{"a"}},
		{"1241431", []string{"a", "bc", "d"}},
		{"103", []string{"a"}}, {"151", []string{"a"}},
	} {
		var b []byte
		for i, k := range []byte(c.kinds) {
			b = append(b, plainPart(k-'0', []byte{'a' + byte(i)})...)
		}
		var want [][]byte
		for _, s := range c.want {
			want = append(want, []byte(s))
		}
		open(t, holding(t, b), want...)
	}
}

func TestReadEndsOfBlocks(t *testing.T) { // P3.1
	for left := range 12 { // bytes of the first block behind its record
		b := plainFile(pattern(api.Block-head-left, 1))
		junk := bytes.Repeat([]byte{77}, 200)
		part := plainPart(1, []byte("part"))
		reads(t, "nothing behind", b)
		reads(t, "bytes behind", append(bytes.Clone(b), junk[:left]...))
		reads(t, "bytes and a part behind", append(append(bytes.Clone(b), junk[:left]...), part...))
		reads(t, "a part at once", append(bytes.Clone(b), part...))
		reads(t, "an empty part at once", append(bytes.Clone(b), plainPart(1, nil)...))
		reads(t, "an empty part at once, and one", append(append(bytes.Clone(b), plainPart(1, nil)...), part...))
		reads(t, "a part that goes beyond the block", append(bytes.Clone(b), plainPart(1, pattern(left+1, 4))...))
	}
	full := plainFile(pattern(114, 1)) // seven bytes are left
	one := append(append(bytes.Clone(full), "ignored"...), plainPart(1, []byte("two"))...)
	open(t, holding(t, one), pattern(114, 1), []byte("two"))
	open(t, holding(t, append(bytes.Clone(full), plainPart(1, nil)...)), pattern(114, 1))
	open(t, holding(t, append(append(bytes.Clone(full), plainPart(1, nil)...), plainPart(1, nil)...)), pattern(114, 1), nil)
	open(t, holding(t, plainPart(1, pattern(121, 1))), pattern(121, 1))
	open(t, holding(t, plainPart(1, pattern(122, 1))))
	open(t, holding(t, plainPart(1, pattern(65535, 1))))
	open(t, holding(t, make([]byte, 1000)))
	open(t, holding(t, bytes.Repeat([]byte{255}, 1000)))
}

func TestReadLongerThanWritten(t *testing.T) { // P3.1: the limit of a record is one of Add
	long := pattern(3*api.MaxRecord, 1)
	open(t, holding(t, plainFile(long, []byte("a"))), long, []byte("a"))
}

func TestOrderAndReopening(t *testing.T) { // P3.3
	records := [][]byte{pattern(5, 1), nil, pattern(500, 2), pattern(121, 3), pattern(1, 4), pattern(4000, 5), nil, nil, pattern(77, 6)}
	once, often := disk(t, most), disk(t, most)
	j := open(t, once)
	for i, r := range records {
		oks(t, j.Add(r))
		k := open(t, often, records[:i]...)
		oks(t, k.Add(r), k.Sync(), often.Names())
	}
	open(t, once, records...)
	open(t, often, records...)
	if !bytes.Equal(bytesOf(t, once), bytesOf(t, often)) || !bytes.Equal(bytesOf(t, once), plainFile(records...)) {
		t.Error("the files depend on more than their records")
	}
}

func TestCrash(t *testing.T) { // P3.3
	records := [][]byte{[]byte("sure"), pattern(150, 1), nil, pattern(260, 2), pattern(60, 3), []byte("end")}
	for sure := range len(records) + 1 {
		d := disk(t, most)
		j := open(t, d)
		oks(t, d.Names())
		for i, r := range records {
			if i == sure {
				oks(t, j.Sync())
			}
			oks(t, j.Add(r))
		}
		if sure == len(records) {
			oks(t, j.Sync())
		}
		from := len(plainFile(records[:sure]...))
		all := len(plainFile(records...))
		for keep := range all - from + 3 {
			n := sure
			for n < len(records) && len(plainFile(records[:n+1]...)) <= from+keep {
				n++
			}
			c := failed(t, d, keep, false)
			k := open(t, c, records[:n]...)
			want := api.ErrState
			if min(from+keep, all) == len(plainFile(records[:n]...)) {
				want = api.OK
			}
			is(t, fmt.Sprintf("%d are sure, %d bytes more, Add", sure, keep), k.Add([]byte("more")), want)
		}
	}
}

func TestConcatenated(t *testing.T) { // P3.3
	ends := func(records ...[]byte) []byte {
		t.Helper()
		b := plainFile(records...)
		if len(b)%api.Block != 0 {
			t.Fatalf("a file of %d bytes", len(b))
		}
		d := disk(t, most)
		j := open(t, d)
		for _, r := range records {
			oks(t, j.Add(r))
		}
		if !bytes.Equal(bytesOf(t, d), b) {
			t.Fatal("other bytes")
		}
		return b
	}
	one := ends(pattern(121, 1))
	two := ends([]byte("a"), pattern(113+121, 2))
	rest := plainFile(nil, pattern(300, 3))
	open(t, holding(t, slices.Concat(one, two, one, rest)), pattern(121, 1), []byte("a"), pattern(234, 2), pattern(121, 1), nil, pattern(300, 3))
	open(t, holding(t, slices.Concat(two, two)), []byte("a"), pattern(234, 2), []byte("a"), pattern(234, 2))
}

func TestNone(t *testing.T) { // R3
	for what, j := range map[string]*journals.Journal{"nil": nil, "zero": {}} {
		for _, r := range [][]byte{nil, []byte("a"), make([]byte, api.MaxRecord+1)} {
			is(t, what+": Add", j.Add(r), api.ErrNil)
		}
		is(t, what+": Sync", j.Sync(), api.ErrNil)
	}
}

func TestNewMemory(t *testing.T) { // R4
	d := disk(t, most)
	j := open(t, d)
	room := bytes.Repeat([]byte{77}, 400)
	want := make([][]byte, 0)
	for _, n := range []int{0, 5, 300, 7} {
		oks(t, j.Add(room[:n]))
		want = append(want, bytes.Repeat([]byte{77}, n))
	}
	if !bytes.Equal(room, bytes.Repeat([]byte{77}, 400)) {
		t.Error("Add wrote into its argument, or behind it")
	}
	clear(room)
	open(t, d, want...)
	for i := range want { // each record's memory is its own, its spare capacity too
		_, l, e := journals.Open(d, name)
		oks(t, e)
		clear(l[i][:cap(l[i])])
		clear(want[i])
		if !same(l, want) {
			t.Errorf("record %d shares memory: %s", i, short(l))
		}
		want[i] = bytes.Repeat([]byte{77}, len(want[i]))
	}
	_, l, e := journals.Open(d, name)
	oks(t, e)
	clear(l[:cap(l)])
	open(t, d, want...)
}

func TestJournalsStandAlone(t *testing.T) { // R5
	d, other := disk(t, most), disk(t, most)
	j, k := open(t, d), open(t, other)
	oks(t, j.Add([]byte("one")), k.Add([]byte("two")))
	l, _, e := journals.Open(d, "k")
	oks(t, e, l.Add([]byte("three")), j.Add([]byte("four")))
	open(t, d, []byte("one"), []byte("four"))
	open(t, other, []byte("two"))
	_, records, e := journals.Open(d, "k")
	oks(t, e)
	if !same(records, [][]byte{[]byte("three")}) {
		t.Errorf("%s", short(records))
	}
}

func TestManyCalls(t *testing.T) { // P3.1 to P3.3
	seed := uint64(1)
	next := func(n int) int {
		seed = seed*6364136223846793005 + 1442695040888963407
		return int(seed >> 33 % uint64(n))
	}
	for run := range 100 {
		size := 1 + next(3000)
		d := disk(t, size)
		j := open(t, d)
		oks(t, d.Names())
		var records [][]byte
		sure := 0 // bytes
		for at := range 50 {
			b := plainFile(records...)
			switch call := next(8); call {
			case 0, 1, 2, 3, 4:
				r := pattern(next(1<<next(9)), at)
				after := plainFile(append(records[:len(records):len(records)], r)...)
				want := api.OK
				if len(after) > size {
					want = api.ErrFull
				} else {
					records, b = append(records, r), after
				}
				if e := j.Add(r); e != want {
					t.Fatalf("run %d, call %d: Add: error %d, not %d", run, at, e, want)
				}
			case 5:
				oks(t, j.Sync())
				sure = len(b)
			case 6:
				j = open(t, d, records...)
			case 7:
				c := failed(t, d, next(300), false)
				b = bytesOf(t, c)
				if len(b) < sure {
					t.Fatalf("run %d, call %d: %d bytes left of %d", run, at, len(b), sure)
				}
				l, end := plainRead(b)
				k := open(t, c, l...)
				if !same(l, records[:len(l)]) || end < sure {
					t.Fatalf("run %d, call %d: %s, not from the first one on", run, at, short(l))
				}
				if end == len(b) { // goes on with what is left
					d, j, records, sure = c, k, records[:len(l):len(l)], end
				} else {
					b = bytesOf(t, d)
				}
			}
			if !bytes.Equal(bytesOf(t, d), b) {
				t.Fatalf("run %d, call %d: other bytes", run, at)
			}
		}
	}
}
