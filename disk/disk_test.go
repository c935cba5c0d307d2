package disk

import (
	"bytes"
	"fmt"
	"maps"
	"math"
	"reflect"
	"slices"
	"sort"
	"strings"
	"testing"

	"coppice/api"
)

// some tells n bytes, others for each kind.
func some(kind byte, n int) []byte {
	b := make([]byte, n)
	v := uint32(kind)*2654435761 + 12345
	for i := range b {
		v = v*1664525 + 1013904223
		b[i] = byte(v >> 24)
	}
	return b
}

func fresh(t *testing.T, sector int) *Disk {
	t.Helper()
	d, e := New(sector)
	if e != api.OK || d == nil {
		t.Fatal("New", sector, int(e))
	}
	return d
}

// want fails unless an error is the one that is asked for.
func want(t *testing.T, what string, got, e api.Errno) {
	t.Helper()
	if got != e {
		t.Fatalf("%q: %d, not %d", what, int(got), int(e))
	}
}

func create(t *testing.T, d *Disk, name string) {
	t.Helper()
	want(t, "Create "+name, d.Create(name), api.OK)
}

func put(t *testing.T, d *Disk, name string, b []byte) {
	t.Helper()
	want(t, "Append "+name, d.Append(name, b), api.OK)
}

func after(t *testing.T, d *Disk, n int) *Disk {
	t.Helper()
	o, e := d.After(n)
	if e != api.OK || o == nil {
		t.Fatal("After", n, int(e))
	}
	return o
}

func names(d *Disk) (l []string) {
	for name := range d.List() {
		l = append(l, name)
	}
	return l
}

// files tells all files of a disk, by its looks alone.
func files(t *testing.T, d *Disk) map[string]string {
	t.Helper()
	out := map[string]string{}
	for name := range d.List() {
		size, e := d.Size(name)
		want(t, "Size", e, api.OK)
		b, e := d.Read(name, 0, size)
		want(t, "Read", e, api.OK)
		out[name] = string(b)
	}
	return out
}

func raws(t *testing.T, d *Disk) (l []api.Raw) {
	t.Helper()
	for i := range d.Writes() {
		raw, e := d.Raw(i)
		want(t, "Raw", e, api.OK)
		l = append(l, raw)
	}
	return l
}

func created(name string) api.Raw { return api.Raw{Kind: api.RawCreate, Name: name} }

func appended(name string, b string) api.Raw {
	return api.Raw{Kind: api.RawAppend, Name: name, Bytes: []byte(b)}
}

// holdRaws fails unless a disk's raw writes are these, in each field.
func holdRaws(t *testing.T, d *Disk, l ...api.Raw) {
	t.Helper()
	got := raws(t, d)
	if len(got) != len(l) {
		t.Fatalf("%d raw writes, not %d: %#v", len(got), len(l), got)
	}
	for i := range l {
		if !reflect.DeepEqual(got[i], l[i]) {
			t.Fatalf("raw write %d: %#v, not %#v", i, got[i], l[i])
		}
	}
}

func holdFiles(t *testing.T, d *Disk, l map[string]string) {
	t.Helper()
	if got := files(t, d); !maps.Equal(got, l) {
		t.Fatalf("%q, not %q", got, l)
	}
	sorted := slices.Sorted(maps.Keys(l))
	if got := names(d); !slices.Equal(got, sorted) {
		t.Fatalf("%q, not %q", got, sorted)
	}
}

// model is a disk by the chapter's words: raw write by raw write, byte by byte.
type model struct {
	sector int
	files  map[string]string
	raws   []api.Raw
}

func newModel(sector int) *model { return &model{sector: sector, files: map[string]string{}} }

// do does one raw write.
func (m *model) do(raw api.Raw) {
	m.raws = append(m.raws, raw)
	was := m.files[raw.Name]
	switch raw.Kind {
	case api.RawCreate:
		m.files[raw.Name] = ""
	case api.RawAppend:
		m.files[raw.Name] = was + string(raw.Bytes)
	case api.RawCut:
		m.files[raw.Name] = was[:raw.Size]
	case api.RawRemove:
		delete(m.files, raw.Name)
	case api.RawRename:
		delete(m.files, raw.Name)
		m.files[raw.To] = was
	}
}

func (m *model) wrong(name string) (api.Errno, bool) {
	if len(name) < 1 || len(name) > 128 {
		return api.ErrArg, true
	}
	if _, ok := m.files[name]; !ok {
		return api.ErrMissing, true
	}
	return api.OK, false
}

func (m *model) create(name string) api.Errno {
	e, bad := m.wrong(name)
	if !bad {
		return api.ErrThere
	}
	if e == api.ErrMissing {
		m.do(created(name))
		return api.OK
	}
	return e
}

func (m *model) append(name string, b []byte) api.Errno {
	if e, bad := m.wrong(name); bad {
		return e
	}
	piece := ""
	for i, c := range b {
		piece += string([]byte{c})
		if (len(m.files[name])+len(piece))%m.sector == 0 || i == len(b)-1 {
			m.do(appended(name, piece))
			piece = ""
		}
	}
	return api.OK
}

func (m *model) cut(name string, size int) api.Errno {
	if e, bad := m.wrong(name); bad {
		return e
	}
	if size < 0 || size > len(m.files[name]) {
		return api.ErrArg
	}
	if size != len(m.files[name]) {
		m.do(api.Raw{Kind: api.RawCut, Name: name, Size: size})
	}
	return api.OK
}

func (m *model) remove(name string) api.Errno {
	if e, bad := m.wrong(name); bad {
		return e
	}
	m.do(api.Raw{Kind: api.RawRemove, Name: name})
	return api.OK
}

func (m *model) rename(from, to string) api.Errno {
	if len(to) < 1 || len(to) > 128 {
		return api.ErrArg
	}
	if e, bad := m.wrong(from); bad {
		return e
	}
	if from != to {
		m.do(api.Raw{Kind: api.RawRename, Name: from, To: to})
	}
	return api.OK
}

// behind tells the model behind its first n raw writes, done one by one.
func (m *model) behind(n int) *model {
	o := newModel(m.sector)
	for _, raw := range m.raws[:n] {
		o.do(raw)
	}
	return o
}

func (m *model) hold(t *testing.T, d *Disk) {
	t.Helper()
	if d.Sector() != m.sector || d.Writes() != len(m.raws) {
		t.Fatalf("sector %d, %d raw writes, not %d and %d", d.Sector(), d.Writes(), m.sector, len(m.raws))
	}
	holdFiles(t, d, m.files)
	holdRaws(t, d, m.raws...)
}

// chance tells numbers that look like chance and are the same each time.
type chance uint64

func (c *chance) below(n int) int {
	*c = *c*6364136223846793005 + 1442695040888963407
	return int(uint64(*c) >> 33 % uint64(n))
}

// step does one call on both, and fails unless they answer the same.
func step(t *testing.T, c *chance, d *Disk, m *model) {
	t.Helper()
	pool := []string{"a", "b", "ab", "", "tile/1/0/000", strings.Repeat("n", 128), strings.Repeat("n", 129), "\xff\x00"}
	name, other := pool[c.below(len(pool))], pool[c.below(len(pool))]
	var got, e api.Errno
	what := ""
	switch c.below(8) {
	case 0, 1:
		what, got, e = "Create", d.Create(name), m.create(name)
	case 2, 3, 4:
		b := some(byte(c.below(256)), c.below(3*m.sector+4))
		what, got, e = "Append", d.Append(name, b), m.append(name, b)
	case 5:
		size := c.below(2*m.sector+4) - 1
		what, got, e = "Cut", d.Cut(name, size), m.cut(name, size)
	case 6:
		what, got, e = "Rename", d.Rename(name, other), m.rename(name, other)
	case 7:
		what, got, e = "Remove", d.Remove(name), m.remove(name)
	}
	if got != e {
		t.Fatalf("%s %q %q: %d, not %d", what, name, other, int(got), int(e))
	}
}

// busy tells a disk with some files behind calls of all kinds, and its model.
func busy(t *testing.T, sector, steps int) (*Disk, *model) {
	t.Helper()
	d, m, c := fresh(t, sector), newModel(sector), chance(sector*1000+steps)
	for range steps {
		step(t, &c, d, m)
	}
	return d, m
}

// P12.1

func TestSectors(t *testing.T) {
	for sector := 1; sector <= 4096; sector++ {
		d := fresh(t, sector)
		if d.Sector() != sector || d.Writes() != 0 || len(names(d)) != 0 {
			t.Fatal(sector, d.Sector(), d.Writes(), names(d))
		}
	}
	if api.MaxSector != 4096 {
		t.Error(api.MaxSector)
	}
	for _, sector := range []int{0, -1, -4096, 4097, 8192, math.MinInt, math.MaxInt, 1 << 32, 1<<32 + 1} {
		if d, e := New(sector); d != nil || e != api.ErrArg {
			t.Error(sector, d, int(e))
		}
	}
}

// P12.2

func wrongNames() []string {
	return []string{"", strings.Repeat("x", 129), strings.Repeat("\x00", 129), strings.Repeat("é", 65), strings.Repeat("y", 10000)}
}

func rightNames() []string {
	out := []string{
		"a", " ", "/", ".", "..", "a/b", "\x00", "\x00\x00", "\xff", "\xff\xfe", "\n", "é", "A",
		strings.Repeat("x", 127), strings.Repeat("x", 128), strings.Repeat("\xff", 128), strings.Repeat("é", 64),
	}
	return out
}

// unchanged fails unless what is done leaves all as it was.
func unchanged(t *testing.T, d *Disk, do func()) {
	t.Helper()
	was, wrote := files(t, d), raws(t, d)
	do()
	holdFiles(t, d, was)
	holdRaws(t, d, wrote...)
}

func TestNamesThatAreNone(t *testing.T) {
	d, _ := busy(t, 4, 60)
	create(t, d, "there")
	put(t, d, "there", some(1, 9))
	unchanged(t, d, func() {
		for _, name := range wrongNames() {
			want(t, "Create", d.Create(name), api.ErrArg)
			want(t, "Append", d.Append(name, []byte("x")), api.ErrArg)
			want(t, "Append nothing", d.Append(name, nil), api.ErrArg)
			want(t, "Remove", d.Remove(name), api.ErrArg)
			want(t, "Rename from", d.Rename(name, "x"), api.ErrArg)
			want(t, "Rename to", d.Rename("there", name), api.ErrArg)
			want(t, "Rename missing to", d.Rename("missing", name), api.ErrArg)
			want(t, "Rename both", d.Rename(name, name), api.ErrArg)
			for _, n := range []int{0, -1, 1, math.MaxInt, math.MinInt} {
				want(t, "Cut", d.Cut(name, n), api.ErrArg)
				b, e := d.Read(name, n, n)
				if b != nil || e != api.ErrArg {
					t.Error("Read", b, int(e))
				}
			}
			if n, e := d.Size(name); n != 0 || e != api.ErrArg {
				t.Error("Size", n, int(e))
			}
		}
	})
}

func TestAnyBytesAreAName(t *testing.T) {
	d, l := fresh(t, 3), map[string]string{}
	for i, name := range rightNames() {
		create(t, d, name)
		put(t, d, name, some(byte(i), i))
		l[name] = string(some(byte(i), i))
	}
	for c := range 256 {
		name := "one byte: " + string([]byte{byte(c)})
		create(t, d, name)
		l[name] = ""
	}
	holdFiles(t, d, l)
	holdFiles(t, after(t, d, d.Writes()), l)
	for i, name := range rightNames() {
		want(t, "Cut", d.Cut(name, i/2), api.OK)
		want(t, "Rename", d.Rename(name, "z"), api.OK)
		want(t, "Rename", d.Rename("z", name), api.OK)
		want(t, "Remove", d.Remove(name), api.OK)
	}
	if len(names(d)) != 256 {
		t.Error(names(d))
	}
}

func TestFilesThatAreThere(t *testing.T) {
	d := fresh(t, 4)
	for _, name := range rightNames() {
		create(t, d, name)
		put(t, d, name, []byte("abcdef"))
		unchanged(t, d, func() { want(t, "Create", d.Create(name), api.ErrThere) })
	}
}

func TestFilesThatAreMissing(t *testing.T) {
	for _, d := range []*Disk{fresh(t, 1), fresh(t, 4096)} {
		create(t, d, "a")
		create(t, d, "gone")
		put(t, d, "gone", []byte("bytes"))
		want(t, "Remove", d.Remove("gone"), api.OK)
		create(t, d, "moved")
		want(t, "Rename", d.Rename("moved", "here"), api.OK)
		unchanged(t, d, func() {
			for _, name := range []string{"gone", "moved", "b", "A", "aa", "a\x00", strings.Repeat("x", 128)} {
				want(t, "Append", d.Append(name, []byte("x")), api.ErrMissing)
				want(t, "Append nothing", d.Append(name, nil), api.ErrMissing)
				want(t, "Remove", d.Remove(name), api.ErrMissing)
				want(t, "Rename", d.Rename(name, "a"), api.ErrMissing)
				want(t, "Rename to itself", d.Rename(name, name), api.ErrMissing)
				for _, n := range []int{0, -1, 1, math.MaxInt, math.MinInt} {
					want(t, "Cut", d.Cut(name, n), api.ErrMissing)
					if b, e := d.Read(name, n, n); b != nil || e != api.ErrMissing {
						t.Error("Read", n, b, int(e))
					}
				}
				if n, e := d.Size(name); n != 0 || e != api.ErrMissing {
					t.Error("Size", n, int(e))
				}
			}
		})
	}
}

func TestSizesAndPlacesOutside(t *testing.T) {
	for _, size := range []int{0, 1, 4, 9} {
		d := fresh(t, 4)
		create(t, d, "a")
		put(t, d, "a", some(1, size))
		unchanged(t, d, func() {
			for _, n := range []int{-1, math.MinInt, size + 1, size + 4, math.MaxInt, math.MaxInt - size} {
				want(t, "Cut", d.Cut("a", n), api.ErrArg)
				for _, m := range []int{0, 1, math.MaxInt, -1} {
					if b, e := d.Read("a", n, m); b != nil || e != api.ErrArg {
						t.Error("Read", n, m, b, int(e))
					}
				}
			}
			for at := range size + 1 {
				for _, n := range []int{-1, -size, math.MinInt} {
					if b, e := d.Read("a", at, n); n < 0 && (b != nil || e != api.ErrArg) {
						t.Error("Read", at, n, b, int(e))
					}
				}
			}
		})
	}
}

// P12.3

func TestTheExamples(t *testing.T) {
	d := fresh(t, 4)
	create(t, d, "a")
	put(t, d, "a", []byte("abcdef"))
	put(t, d, "a", []byte("ghi"))
	l := []api.Raw{created("a"), appended("a", "abcd"), appended("a", "ef"), appended("a", "gh"), appended("a", "i")}
	holdRaws(t, d, l...)
	o := after(t, d, 2)
	holdFiles(t, o, map[string]string{"a": "abcd"})
	holdRaws(t, o, l[:2]...)
	if o, e := d.After(6); o != nil || e != api.ErrArg {
		t.Error(o, int(e))
	}
	want(t, "Cut", d.Cut("a", 9), api.OK)
	want(t, "Cut", d.Cut("a", 10), api.ErrArg)
	want(t, "Create", d.Create("a"), api.ErrThere)
	want(t, "Append", d.Append("b", nil), api.ErrMissing)
	holdRaws(t, d, l...)
	want(t, "Rename", d.Rename("a", "b"), api.OK)
	holdRaws(t, d, append(l, api.Raw{Kind: api.RawRename, Name: "a", To: "b"})...)
	holdFiles(t, d, map[string]string{"b": "abcdefghi"})
}

func TestPiecesEndAtMultiplesOfTheSector(t *testing.T) {
	for _, sector := range []int{1, 2, 3, 4, 7, 8} {
		for first := range 3*sector + 2 {
			for second := range 3*sector + 2 {
				d, m := fresh(t, sector), newModel(sector)
				create(t, d, "a")
				m.create("a")
				for i, n := range []int{first, second, 1} {
					b := some(byte(i+n), n)
					put(t, d, "a", b)
					m.append("a", b)
				}
				m.hold(t, d)
			}
		}
	}
}

func TestPiecesOfTheGreatestSector(t *testing.T) {
	d := fresh(t, 4096)
	create(t, d, "a")
	for _, n := range []int{4095, 1, 4096, 4097, 8191, 12288, 0} {
		put(t, d, "a", some(byte(n), n))
	}
	var got []int
	for _, raw := range raws(t, d)[1:] {
		got = append(got, len(raw.Bytes))
	}
	if !slices.Equal(got, []int{4095, 1, 4096, 4096, 1, 4095, 4096, 4096, 4096, 4096}) {
		t.Error(got)
	}
}

func TestPiecesBehindACut(t *testing.T) {
	d := fresh(t, 4)
	create(t, d, "a")
	put(t, d, "a", []byte("abcdefgh"))
	want(t, "Cut", d.Cut("a", 3), api.OK)
	put(t, d, "a", []byte("ABCDEF"))
	holdRaws(t, d, created("a"), appended("a", "abcd"), appended("a", "efgh"), api.Raw{Kind: api.RawCut, Name: "a", Size: 3},
		appended("a", "A"), appended("a", "BCDE"), appended("a", "F"))
	holdFiles(t, d, map[string]string{"a": "abcABCDEF"})
	holdFiles(t, after(t, d, 3), map[string]string{"a": "abcdefgh"})
}

func TestPiecesHangOnTheirOwnFile(t *testing.T) {
	d := fresh(t, 4)
	create(t, d, "a")
	create(t, d, "b")
	put(t, d, "a", []byte("abc"))
	put(t, d, "b", []byte("ABCDE"))
	want(t, "Rename", d.Rename("a", "b"), api.OK)
	put(t, d, "b", []byte("xy"))
	create(t, d, "a")
	put(t, d, "a", []byte("12345"))
	holdRaws(t, d, created("a"), created("b"), appended("a", "abc"), appended("b", "ABCD"), appended("b", "E"),
		api.Raw{Kind: api.RawRename, Name: "a", To: "b"}, appended("b", "x"), appended("b", "y"),
		created("a"), appended("a", "1234"), appended("a", "5"))
	holdFiles(t, d, map[string]string{"a": "12345", "b": "abcxy"})
}

func TestCuts(t *testing.T) {
	for size := range 11 {
		for left := range size + 1 {
			d := fresh(t, 4)
			create(t, d, "a")
			put(t, d, "a", some(1, size))
			wrote := d.Writes()
			want(t, "Cut", d.Cut("a", left), api.OK)
			holdFiles(t, d, map[string]string{"a": string(some(1, size)[:left])})
			if left == size {
				if d.Writes() != wrote {
					t.Error(size, left, "a raw write for nothing")
				}
				continue
			}
			raw, _ := d.Raw(wrote)
			if d.Writes() != wrote+1 || !reflect.DeepEqual(raw, api.Raw{Kind: api.RawCut, Name: "a", Size: left}) {
				t.Error(size, left, raw)
			}
		}
	}
}

func TestRemovedFiles(t *testing.T) {
	d := fresh(t, 4)
	create(t, d, "a")
	create(t, d, "b")
	put(t, d, "a", []byte("abc"))
	want(t, "Remove", d.Remove("a"), api.OK)
	holdFiles(t, d, map[string]string{"b": ""})
	want(t, "Remove", d.Remove("a"), api.ErrMissing)
	create(t, d, "a")
	holdFiles(t, d, map[string]string{"a": "", "b": ""})
	holdRaws(t, d, created("a"), created("b"), appended("a", "abc"), api.Raw{Kind: api.RawRemove, Name: "a"}, created("a"))
}

func TestRenamedFiles(t *testing.T) {
	d := fresh(t, 4)
	create(t, d, "a")
	create(t, d, "b")
	put(t, d, "a", []byte("abc"))
	put(t, d, "b", []byte("of b, and longer"))
	unchanged(t, d, func() { want(t, "Rename", d.Rename("a", "a"), api.OK) })
	wrote := raws(t, d)
	want(t, "Rename", d.Rename("a", "b"), api.OK)
	holdFiles(t, d, map[string]string{"b": "abc"})
	want(t, "Rename", d.Rename("b", "c"), api.OK)
	holdFiles(t, d, map[string]string{"c": "abc"})
	create(t, d, "b")
	put(t, d, "c", []byte("d"))
	holdFiles(t, d, map[string]string{"b": "", "c": "abcd"})
	holdRaws(t, d, append(wrote, api.Raw{Kind: api.RawRename, Name: "a", To: "b"},
		api.Raw{Kind: api.RawRename, Name: "b", To: "c"}, created("b"), appended("c", "d"))...)
}

func TestAnyCalls(t *testing.T) {
	for _, sector := range []int{1, 2, 3, 5, 16, 4096} {
		d, m, c := fresh(t, sector), newModel(sector), chance(sector)
		for range 400 {
			step(t, &c, d, m)
			if len(m.raws) < 60 {
				m.hold(t, d)
			}
		}
		m.hold(t, d)
	}
}

// P12.4

func TestReads(t *testing.T) {
	d := fresh(t, 4)
	all := some(5, 11)
	create(t, d, "other")
	put(t, d, "other", some(6, 30))
	create(t, d, "a")
	put(t, d, "a", all[:5])
	put(t, d, "a", all[5:])
	unchanged(t, d, func() {
		for at := range len(all) + 1 {
			for _, n := range []int{0, 1, 2, 3, 4, 5, 10, 11, 12, 13, 1000, math.MaxInt - 1, math.MaxInt} {
				b, e := d.Read("a", at, n)
				if e != api.OK || !bytes.Equal(b, all[at:at+min(n, len(all)-at)]) {
					t.Error(at, n, b, int(e))
				}
			}
		}
	})
	create(t, d, "empty")
	if b, e := d.Read("empty", 0, 5); len(b) != 0 || e != api.OK {
		t.Error(b, int(e))
	}
	if n, e := d.Size("empty"); n != 0 || e != api.OK {
		t.Error(n, int(e))
	}
	if n, e := d.Size("a"); n != 11 || e != api.OK {
		t.Error(n, int(e))
	}
}

func TestNamesRiseByBytes(t *testing.T) {
	d := fresh(t, 4)
	l := append(rightNames(), "B", "b", "ab", "a\x00", "Z", "z", "\x7f", "\x80", "tile/1/0/000", "tile/1/0/x000/001", "tile/1", "e\u0301")
	for i := range 300 {
		l = append(l, fmt.Sprint(i*7919%1000))
	}
	for _, name := range l {
		create(t, d, name)
	}
	byBytes := slices.Clone(l)
	sort.Slice(byBytes, func(i, j int) bool { return bytes.Compare([]byte(byBytes[i]), []byte(byBytes[j])) < 0 })
	for range 5 {
		if got := names(d); !slices.Equal(got, byBytes) {
			t.Fatalf("%q", got)
		}
	}
}

func TestRawWritesByTheirNumber(t *testing.T) {
	for _, steps := range []int{0, 1, 50} {
		d, m := busy(t, 3, steps)
		n := len(m.raws)
		if d.Writes() != n {
			t.Fatal(d.Writes(), n)
		}
		for _, i := range []int{-1, n, n + 1, math.MinInt, math.MaxInt} {
			if raw, e := d.Raw(i); !reflect.DeepEqual(raw, api.Raw{}) || e != api.ErrArg {
				t.Error(i, raw, int(e))
			}
		}
		holdRaws(t, d, m.raws...)
	}
}

func TestSame(t *testing.T) {
	build := func(sector int, l map[string]string) *Disk {
		d := fresh(t, sector)
		for _, name := range slices.Sorted(maps.Keys(l)) {
			create(t, d, name)
			put(t, d, name, []byte(l[name]))
		}
		return d
	}
	all := []map[string]string{
		{}, {"a": ""}, {"b": ""}, {"a": "", "b": ""}, {"a": "x"}, {"a": "y"}, {"a": "xy"}, {"a": "x", "b": ""},
		{"a": "", "b": "x"}, {"b": "x"}, {"a": "x", "b": "x"}, {"a": "x\x00"}, {"a\x00": "x"},
	}
	for i, x := range all {
		for j, y := range all {
			if got := build(1, x).Same(build(512, y)); got != (i == j) {
				t.Errorf("%q, %q: %v", x, y, got)
			}
		}
		d := build(2, x)
		if !d.Same(d) || d.Same(nil) {
			t.Errorf("%q", x)
		}
		create(t, d, "more")
		if d.Same(build(2, x)) {
			t.Errorf("%q and more", x)
		}
		want(t, "Remove", d.Remove("more"), api.OK)
		if !d.Same(build(2, x)) {
			t.Errorf("%q and no more", x)
		}
	}
}

func TestSameOfNil(t *testing.T) {
	var none *Disk
	if !none.Same(nil) {
		t.Error("two nil ones")
	}
	if none.Same(fresh(t, 1)) || fresh(t, 1).Same(nil) {
		t.Error("a nil one and another")
	}
	if none.Same(&Disk{}) || (&Disk{}).Same(nil) || (&Disk{}).Same(&Disk{}) || (&Disk{}).Same(fresh(t, 1)) || fresh(t, 1).Same(&Disk{}) {
		t.Error("one that no call made")
	}
}

// P12.5

func TestBehindEachRawWrite(t *testing.T) {
	for _, sector := range []int{1, 2, 4, 7} {
		d, m := busy(t, sector, 80)
		unchanged(t, d, func() {
			for n := range len(m.raws) + 1 {
				m.behind(n).hold(t, after(t, d, n))
			}
		})
		for _, n := range []int{-1, len(m.raws) + 1, math.MinInt, math.MaxInt} {
			if o, e := d.After(n); o != nil || e != api.ErrArg {
				t.Error(n, o, int(e))
			}
		}
	}
	d := fresh(t, 4)
	if o := after(t, d, 0); o == d || !o.Same(d) || o.Writes() != 0 || o.Sector() != 4 {
		t.Error("nothing was written")
	}
	if o, e := d.After(1); o != nil || e != api.ErrArg {
		t.Error(o, int(e))
	}
}

// P12.6

func TestBehindAllRawWritesItIsTheSame(t *testing.T) {
	for _, sector := range []int{1, 3, 8, 4096} {
		d, m, c := fresh(t, sector), newModel(sector), chance(sector+77)
		for range 100 {
			step(t, &c, d, m)
			o := after(t, d, d.Writes())
			if o == d || !o.Same(d) || !d.Same(o) || o.Writes() != d.Writes() {
				t.Fatal(sector, d.Writes())
			}
		}
		m.hold(t, after(t, d, d.Writes()))
	}
}

// redo does a raw write as a call on a disk.
func redo(d *Disk, raw api.Raw) api.Errno {
	switch raw.Kind {
	case api.RawCreate:
		return d.Create(raw.Name)
	case api.RawAppend:
		return d.Append(raw.Name, raw.Bytes)
	case api.RawCut:
		return d.Cut(raw.Name, raw.Size)
	case api.RawRemove:
		return d.Remove(raw.Name)
	case api.RawRename:
		return d.Rename(raw.Name, raw.To)
	}
	return api.ErrArg
}

func TestRawWritesDoneOneByOneMakeTheDisk(t *testing.T) {
	for _, sector := range []int{1, 2, 5, 16} {
		d, _ := busy(t, sector, 80)
		o := fresh(t, sector)
		for n, raw := range raws(t, d) {
			if !o.Same(after(t, d, n)) {
				t.Fatal(sector, n)
			}
			want(t, "a raw write", redo(o, raw), api.OK)
			if o.Writes() != n+1 {
				t.Fatal(sector, n, "is not one raw write")
			}
		}
		holdRaws(t, o, raws(t, d)...)
		if !o.Same(d) {
			t.Error(sector)
		}
	}
}

func TestDisksGoOnByThemselves(t *testing.T) {
	for _, sector := range []int{1, 3, 4} {
		d, m := busy(t, sector, 40)
		var others []*Disk
		var models []*model
		for n := range d.Writes() + 1 {
			others, models = append(others, after(t, d, n)), append(models, m.behind(n))
		}
		others, models = append(others, d), append(models, m)
		c := chance(sector)
		for range 20 {
			for i, o := range others {
				step(t, &c, o, models[i])
			}
		}
		for i, o := range others {
			models[i].hold(t, o)
		}
		// A cut of a cut is one of the first disk, as long as nothing came behind it.
		last := len(others) - 2
		for n := range models[last].raws {
			models[last].behind(n).hold(t, after(t, after(t, others[last], n+1), n))
		}
	}
}

func TestWhatComesBehindAnAppendInTheMidst(t *testing.T) {
	d := fresh(t, 4)
	create(t, d, "a")
	put(t, d, "a", []byte("abcdefghij"))
	o := after(t, d, 2)
	put(t, o, "a", []byte("XYZ"))
	put(t, d, "a", []byte("kl"))
	want(t, "Cut", d.Cut("a", 1), api.OK)
	put(t, d, "a", []byte("12"))
	holdFiles(t, o, map[string]string{"a": "abcdXYZ"})
	holdFiles(t, d, map[string]string{"a": "a12"})
	holdFiles(t, after(t, d, 5), map[string]string{"a": "abcdefghijkl"})
	holdRaws(t, o, created("a"), appended("a", "abcd"), appended("a", "XYZ"))
}

// P12.7

func TestEachBeginningIsWhatALossOfPowerLeaves(t *testing.T) {
	d := fresh(t, 1)
	create(t, d, "a")
	put(t, d, "a", []byte("ahead"))
	b := some(9, 300)
	from := d.Writes()
	put(t, d, "a", b)
	if d.Writes() != from+len(b) {
		t.Fatal(d.Writes())
	}
	for n := range len(b) + 1 {
		holdFiles(t, after(t, d, from+n), map[string]string{"a": "ahead" + string(b[:n])})
	}
	for i, raw := range raws(t, d) {
		if raw.Kind == api.RawAppend && len(raw.Bytes) != 1 || raw.Kind != api.RawAppend && len(raw.Bytes) != 0 {
			t.Error(i, raw)
		}
	}
}

func TestManyRawWritesOfOneAppend(t *testing.T) {
	d := fresh(t, 1)
	create(t, d, "a")
	b := some(4, 1<<25)
	put(t, d, "a", b)
	if d.Writes() != len(b)+1 {
		t.Fatal(d.Writes())
	}
	for _, i := range []int{0, 1, 12345, 1 << 24, len(b) - 1} {
		raw, e := d.Raw(i + 1)
		if e != api.OK || !reflect.DeepEqual(raw, appended("a", string(b[i:i+1]))) {
			t.Error(i, raw, int(e))
		}
		got, _ := after(t, d, i+1).Read("a", 0, math.MaxInt)
		if !bytes.Equal(got, b[:i]) {
			t.Error(i, len(got))
		}
	}
}

// Rule 1 of DOC.md

func TestDisksThatNoCallMade(t *testing.T) {
	for _, d := range []*Disk{nil, {}} {
		for i, e := range []api.Errno{
			d.Create("a"), d.Create(""), d.Append("a", []byte("x")), d.Append("", nil), d.Cut("a", 0), d.Cut("", -1),
			d.Remove("a"), d.Remove(""), d.Rename("a", "b"), d.Rename("", "b"), d.Rename("a", ""), d.Rename("a", "a"),
		} {
			if e != api.ErrNil {
				t.Error(i, int(e))
			}
		}
		for _, name := range []string{"", "a"} {
			if b, e := d.Read(name, -1, -1); b != nil || e != api.ErrNil {
				t.Error(b, int(e))
			}
			if n, e := d.Size(name); n != 0 || e != api.ErrNil {
				t.Error(n, int(e))
			}
		}
		for _, n := range []int{0, -1, 1, math.MinInt, math.MaxInt} {
			if raw, e := d.Raw(n); !reflect.DeepEqual(raw, api.Raw{}) || e != api.ErrNil {
				t.Error(raw, int(e))
			}
			if o, e := d.After(n); o != nil || e != api.ErrNil {
				t.Error(o, int(e))
			}
		}
		if d.Sector() != 0 || d.Writes() != 0 || names(d) != nil {
			t.Error(d.Sector(), d.Writes(), names(d))
		}
		if d != nil && !reflect.DeepEqual(*d, Disk{}) {
			t.Error("something was done", *d)
		}
	}
}

// Rule 3 of DOC.md

func TestNilIsAsEmpty(t *testing.T) {
	d := fresh(t, 4)
	create(t, d, "a")
	for _, ahead := range []int{0, 3, 1} {
		put(t, d, "a", some(1, ahead))
		unchanged(t, d, func() {
			put(t, d, "a", nil)
			put(t, d, "a", []byte{})
		})
	}
}

// Rule 4 of DOC.md

// spoil writes over a list's memory, its spare room too.
func spoil(b []byte) {
	b = b[:cap(b)]
	for i := range b {
		b[i] ^= 255
	}
}

func TestWhatIsHandedInStaysAndIsNotKept(t *testing.T) {
	for _, n := range []int{0, 1, 3, 4, 5, 20} {
		whole := some(2, n+30)
		was := bytes.Clone(whole)
		d := fresh(t, 4)
		create(t, d, "a")
		put(t, d, "a", whole[:n])
		put(t, d, "a", []byte("behind"))
		if !bytes.Equal(whole, was) {
			t.Error(n, "changed")
		}
		o, wrote := after(t, d, d.Writes()), raws(t, d)
		spoil(whole)
		l := map[string]string{"a": string(was[:n]) + "behind"}
		for _, x := range []*Disk{d, o} {
			holdFiles(t, x, l)
			holdRaws(t, x, wrote...)
			holdFiles(t, after(t, x, x.Writes()), l)
		}
	}
}

func TestWhatIsHandedOutIsNewMemory(t *testing.T) {
	d, m := busy(t, 4, 120)
	create(t, d, "z")
	m.create("z")
	put(t, d, "z", some(3, 21))
	m.append("z", some(3, 21))
	o := after(t, d, d.Writes())
	for range 2 {
		for _, x := range []*Disk{d, o} {
			for name := range x.List() {
				size, _ := x.Size(name)
				for at := range size {
					b, _ := x.Read(name, at, size/2)
					spoil(b)
				}
			}
			for i := range x.Writes() {
				raw, _ := x.Raw(i)
				other, _ := x.Raw(i)
				spoil(raw.Bytes)
				if !reflect.DeepEqual(other, m.raws[i]) {
					t.Fatal(i, "shares memory with another answer")
				}
			}
		}
	}
	m.hold(t, d)
	m.hold(t, o)
	m.hold(t, after(t, d, d.Writes()))
}

func TestSpareRoomIsNotHandedOut(t *testing.T) {
	d := fresh(t, 8)
	create(t, d, "a")
	put(t, d, "a", bytes.Repeat([]byte{255}, 200))
	for n := range 100 {
		b, _ := d.Read("a", n, n)
		raw, _ := d.Raw(n % d.Writes())
		for _, l := range [][]byte{b, raw.Bytes} {
			for _, c := range l[len(l):cap(l)] {
				if c != 0 {
					t.Fatal(n, "hands out what lies behind")
				}
			}
		}
	}
}

func TestFilesShareNoMemory(t *testing.T) {
	d := fresh(t, 4)
	create(t, d, "a")
	put(t, d, "a", []byte("abcdef"))
	want(t, "Rename", d.Rename("a", "b"), api.OK)
	create(t, d, "a")
	put(t, d, "a", []byte("ABC"))
	want(t, "Cut", d.Cut("b", 2), api.OK)
	put(t, d, "b", []byte("xyz"))
	want(t, "Cut", d.Cut("a", 0), api.OK)
	put(t, d, "a", []byte("1"))
	holdFiles(t, d, map[string]string{"a": "1", "b": "abxyz"})
	holdFiles(t, after(t, d, 3), map[string]string{"a": "abcdef"})
}

// Rule 8 of DOC.md

func TestNamesMayBeLeftAnywhere(t *testing.T) {
	d := fresh(t, 4)
	l := []string{"a", "b", "c", "d"}
	for _, name := range l {
		create(t, d, name)
	}
	list := d.List()
	for stop := range l {
		var got []string
		list(func(name string) bool {
			got = append(got, name)
			return len(got) <= stop
		})
		if !slices.Equal(got, l[:stop+1]) {
			t.Error(stop, got)
		}
	}
	for range list {
		if got := slices.Collect(list); !slices.Equal(got, l) {
			t.Error(got)
		}
	}
}

func TestNamesAreThoseAsTheRangeBegins(t *testing.T) {
	d := fresh(t, 4)
	list := d.List()
	if got := slices.Collect(list); len(got) != 0 {
		t.Error(got)
	}
	for _, name := range []string{"c", "a", "b"} {
		create(t, d, name)
	}
	var got []string
	for name := range list {
		got = append(got, name)
		want(t, "Remove", d.Remove(name), api.OK)
		create(t, d, name+"x")
		want(t, "Rename", d.Rename(name+"x", name+"y"), api.OK)
		if name == "a" {
			want(t, "Rename", d.Rename("ay", "z"), api.OK)
		}
	}
	if !slices.Equal(got, []string{"a", "b", "c"}) {
		t.Error(got)
	}
	if got := slices.Collect(list); !slices.Equal(got, []string{"by", "cy", "z"}) {
		t.Error(got)
	}
}
