package journal

import (
	"bytes"
	"encoding/binary"
	"fmt"
	"hash/crc32"
	"maps"
	"math"
	"reflect"
	"slices"
	"strings"
	"testing"

	"coppice/api"
	"coppice/disk"
)

// some tells n bytes, others for each kind.
func some(kind, n int) []byte {
	b := make([]byte, n)
	v := uint32(kind)*2654435761 + 12345
	for i := range b {
		v = v*1664525 + 1013904223
		b[i] = byte(v >> 24)
	}
	return b
}

// framed tells data in a frame by chapter 11's words, with the library's sum.
func framed(data []byte) []byte {
	length := binary.BigEndian.AppendUint32(nil, uint32(len(data)))
	sum := crc32.ChecksumIEEE(append(bytes.Clone(length), data...))
	return append(binary.BigEndian.AppendUint32(length, sum), data...)
}

// fileOf tells the bytes of a file with these leaves.
func fileOf(leaves ...string) string {
	var b []byte
	for _, leaf := range leaves {
		b = append(b, framed([]byte(leaf))...)
	}
	return string(b)
}

func nameOf(generation int) string { return fmt.Sprintf("journal-%06d", generation) }

// want fails unless an error is the one that is asked for.
func want(t *testing.T, what string, got, e api.Errno) {
	t.Helper()
	if got != e {
		t.Fatalf("%s: %d, not %d", what, int(got), int(e))
	}
}

func newDisk(t *testing.T, sector int) *disk.Disk {
	t.Helper()
	d, e := disk.New(sector)
	want(t, "disk.New", e, api.OK)
	return d
}

// lay puts files on a disk, in the order of their names.
func lay(t *testing.T, d *disk.Disk, files map[string]string) {
	t.Helper()
	for _, name := range slices.Sorted(maps.Keys(files)) {
		want(t, "Create "+name, d.Create(name), api.OK)
		want(t, "Append "+name, d.Append(name, []byte(files[name])), api.OK)
	}
}

func diskWith(t *testing.T, sector int, files map[string]string) *disk.Disk {
	t.Helper()
	d := newDisk(t, sector)
	lay(t, d, files)
	return d
}

func open(t *testing.T, d *disk.Disk) *Journal {
	t.Helper()
	j, e := Open(d)
	if e != api.OK || j == nil {
		t.Fatalf("Open: %v, %d", j, int(e))
	}
	return j
}

func add(t *testing.T, j *Journal, leaves ...string) {
	t.Helper()
	for _, leaf := range leaves {
		want(t, "Add", j.Add([]byte(leaf)), api.OK)
	}
}

func after(t *testing.T, d *disk.Disk, n int) *disk.Disk {
	t.Helper()
	o, e := d.After(n)
	want(t, "After", e, api.OK)
	return o
}

// filesOf tells all files of a disk.
func filesOf(t *testing.T, d *disk.Disk) map[string]string {
	t.Helper()
	out := map[string]string{}
	for name := range d.List() {
		size, e := d.Size(name)
		want(t, "Size", e, api.OK)
		b, e := d.Read(name, 0, size)
		want(t, "Read", e, api.OK)
		out[name] = string(b)
	}
	return out
}

func holdFiles(t *testing.T, d *disk.Disk, files map[string]string) {
	t.Helper()
	if got := filesOf(t, d); !maps.Equal(got, files) {
		t.Fatalf("the disk has %.300q, not %.300q", got, files)
	}
}

// holdRaws fails unless the raw writes from a number on are just these.
func holdRaws(t *testing.T, d *disk.Disk, from int, l ...api.Raw) {
	t.Helper()
	var got []api.Raw
	for i := from; i < d.Writes(); i++ {
		raw, e := d.Raw(i)
		want(t, "Raw", e, api.OK)
		got = append(got, raw)
	}
	if len(got) != len(l) || len(l) > 0 && !reflect.DeepEqual(got, l) {
		t.Fatalf("raw writes %.300v, not %.300v", got, l)
	}
}

func created(name string) api.Raw { return api.Raw{Kind: api.RawCreate, Name: name} }
func removed(name string) api.Raw { return api.Raw{Kind: api.RawRemove, Name: name} }
func appended(name, b string) api.Raw {
	return api.Raw{Kind: api.RawAppend, Name: name, Bytes: []byte(b)}
}
func cut(name string, size int) api.Raw {
	return api.Raw{Kind: api.RawCut, Name: name, Size: size}
}

func leavesOf(t *testing.T, j *Journal) []string {
	t.Helper()
	l := []string{}
	for i, leaf := range j.All() {
		if i != len(l) {
			t.Fatalf("the leaf %d is told as %d", len(l), i)
		}
		l = append(l, string(leaf))
	}
	if j.Len() != len(l) {
		t.Fatalf("Len %d of %d leaves", j.Len(), len(l))
	}
	return l
}

// hold fails unless a journal has this generation and these leaves.
func hold(t *testing.T, j *Journal, generation int, leaves ...string) {
	t.Helper()
	if j.Generation() != generation {
		t.Fatalf("generation %d, not %d", j.Generation(), generation)
	}
	if got := leavesOf(t, j); !slices.Equal(got, leaves) {
		t.Fatalf("leaves %.300q, not %.300q", got, leaves)
	}
}

// alphabet tells n leaves: a, b and so on.
func alphabet(n int) (l []string) {
	for i := range n {
		l = append(l, string(rune('a'+i)))
	}
	return l
}

// P13.1

func TestName(t *testing.T) {
	for generation, name := range map[int]string{
		1: "journal-000001", 9: "journal-000009", 10: "journal-000010", 12345: "journal-012345",
		99999: "journal-099999", 100000: "journal-100000", 999999: "journal-999999",
		1000000: "journal-1000000", 123456789: "journal-123456789", 2147483647: "journal-2147483647",
	} {
		if got, e := Name(generation); got != name || e != api.OK {
			t.Errorf("Name(%d): %q, %d", generation, got, int(e))
		}
	}
	for _, generation := range []int{0, -1, -1000000, math.MinInt32, math.MinInt, 2147483648, 2147483649, 1 << 32, 1<<32 + 1, 1<<62 + 1, math.MaxInt} {
		if got, e := Name(generation); got != "" || e != api.ErrArg {
			t.Errorf("Name(%d): %q, %d", generation, got, int(e))
		}
	}
}

func TestNameOfMany(t *testing.T) {
	seen := map[string]int{}
	for i := 1; i <= 3000000; i += 1 + i/1000 {
		name, e := Name(i)
		if e != api.OK || name != nameOf(i) {
			t.Fatalf("Name(%d): %q, %d", i, name, int(e))
		}
		if seen[name] != 0 {
			t.Fatalf("%d and %d have the name %q", i, seen[name], name)
		}
		seen[name] = i
	}
}

// P13.2

func TestOpenOfNoDisk(t *testing.T) {
	for _, d := range []*disk.Disk{nil, {}, new(disk.Disk)} {
		if j, e := Open(d); j != nil || e != api.ErrNil {
			t.Errorf("Open: %v, %d", j, int(e))
		}
	}
}

func TestOpenOfAnEmptyDisk(t *testing.T) {
	for _, sector := range []int{1, 7, api.MaxSector} {
		d := newDisk(t, sector)
		hold(t, open(t, d), 1)
		holdRaws(t, d, 0, created("journal-000001"))
		hold(t, open(t, d), 1)
		holdRaws(t, d, 1)
	}
}

// strangers are names that are no generation's.
var strangers = []string{
	"j", "journal", "journal-", "journal-0", "journal-1", "journal-00001", "journal-0000001", "journal-00000001",
	"journal-000000", "journal-0000000", "journal-2147483648", "journal-02147483647", "journal-2147483649",
	"journal-4294967296", "journal-4294967297", "journal-18446744073709551617", "journal-9223372036854775808",
	"journal-100000000000000000000000001", "journal-" + strings.Repeat("9", api.MaxName-8), "journal-" + strings.Repeat("0", api.MaxName-9) + "1",
	"journal-00000a", "journal-a00001", "journal-+00001", "journal--00001", "journal--000001", "journal-+000001", "journal-0x0001", "journal-0b0001",
	"journal- 00001", "journal-00001 ", "journal-000001 ", " journal-000001", "journal-000001\n", "journal-000001\x00", "journal-00_001", "journal-1e0006",
	"Journal-000001", "JOURNAL-000001", "journal_000001", "journal000001", "journal-journal-000001", "xjournal-000001", "journal-000001x", "journal-000001.tmp",
	"journal-00000/", "journal-00000:", "journal-/00001", "journal-:00001", "journal-00000\xff", "journal-00000\u0661", "journal-\uff10\uff10\uff10\uff10\uff10\uff11",
	"tile/1/0/000", "bundle-000000", "checkpoint", "\x00", "\xff",
}

func TestOpenGoesOverWhatIsNoGeneration(t *testing.T) {
	files := map[string]string{}
	for i, name := range strangers {
		files[name] = fileOf(fmt.Sprint(i)) + "torn"
	}
	d := diskWith(t, 64, files)
	n := d.Writes()
	j := open(t, d)
	hold(t, j, 1)
	holdRaws(t, d, n, created("journal-000001"))
	add(t, j, "a", "b")
	want(t, "Clear", j.Clear(1), api.OK)
	hold(t, open(t, d), 2, "b")
	files["journal-000002"] = fileOf("b")
	holdFiles(t, d, files)
}

func TestOpenGoesOverEachStranger(t *testing.T) {
	for _, name := range strangers {
		files := map[string]string{name: fileOf("x"), "journal-000077": fileOf("a") + "!"}
		d := diskWith(t, 16, files)
		n := d.Writes()
		hold(t, open(t, d), 77, "a")
		holdRaws(t, d, n, cut("journal-000077", 9))
	}
}

func TestOpenTakesTheLeastGeneration(t *testing.T) {
	// By their bytes the names with more digits stand ahead of some with fewer.
	l := []int{999998, 999999, 1000000, 1000001, 2000000, 9999999, 10000000, 214748364, 2147483646, 2147483647}
	for first := range l {
		files := map[string]string{"other": "x"}
		for _, generation := range l[first:] {
			files[nameOf(generation)] = fileOf(fmt.Sprint("leaf ", generation), "x") + "torn"
		}
		d := diskWith(t, 4096, files)
		n := d.Writes()
		name, leaf := nameOf(l[first]), fmt.Sprint("leaf ", l[first])
		var raws []api.Raw
		for _, generation := range l[first+1:] {
			raws = append(raws, removed(nameOf(generation)))
		}
		whole := fileOf(leaf, "x")
		raws = append(raws, cut(name, len(whole)))
		hold(t, open(t, d), l[first], leaf, "x")
		holdRaws(t, d, n, raws...)
		holdFiles(t, d, map[string]string{"other": "x", name: whole})
	}
}

func TestOpenTakesTheLeastGenerationThoughItIsEmpty(t *testing.T) {
	d := diskWith(t, 8, map[string]string{"journal-000003": "", "journal-000005": fileOf("a"), "journal-000004": fileOf("b")})
	n := d.Writes()
	hold(t, open(t, d), 3)
	holdRaws(t, d, n, removed("journal-000004"), removed("journal-000005"))
}

func TestOpenOfEachBeginning(t *testing.T) {
	leaves := []string{"a", "", "bc", string(some(1, 20)), "", "d"}
	whole := fileOf(leaves...)
	for n := range len(whole) + 1 {
		there := leaves
		for len(fileOf(there...)) > n {
			there = there[:len(there)-1]
		}
		d := diskWith(t, 5, map[string]string{"journal-000009": whole[:n]})
		ahead := d.Writes()
		hold(t, open(t, d), 9, there...)
		holdFiles(t, d, map[string]string{"journal-000009": fileOf(there...)})
		if size := len(fileOf(there...)); size < n {
			holdRaws(t, d, ahead, cut("journal-000009", size))
		} else {
			holdRaws(t, d, ahead)
		}
	}
}

func TestOpenCutsWhatIsNotWhole(t *testing.T) {
	turned := []byte(fileOf("bcd"))
	turned[10] ^= 1
	great := framed(some(2, api.MaxLeaf+1))
	greatTurned := bytes.Clone(great)
	greatTurned[5] ^= 1
	tooGreat := framed(some(2, api.MaxFrame+1))
	for what, tail := range map[string]string{
		"nothing":                        "",
		"three bytes":                    "\x01\x02\x03",
		"noughts, less than a frame":     "\x00\x00\x00\x00\x00\x00\x00",
		"noughts":                        strings.Repeat("\x00", 64),
		"another sum":                    string(turned),
		"another sum, a frame behind it": string(turned) + fileOf("e"),
		"a length beyond every frame":    "\xff\xff\xff\xff\x00\x00\x00\x00" + fileOf("e"),
		"a great frame that is torn":     string(great[:len(great)-1]),
		"a great frame of another sum":   string(greatTurned) + fileOf("e"),
		"a frame above MaxFrame":         string(tooGreat) + fileOf("e"),
		"a great frame behind three":     "\x01\x02\x03" + string(great),
	} {
		t.Log(what)
		for _, leaves := range [][]string{nil, {"a"}, {"a", "", "b"}} {
			whole := fileOf(leaves...)
			d := diskWith(t, 4096, map[string]string{"journal-000001": whole + tail, "journal-000002": fileOf("x")})
			n := d.Writes()
			hold(t, open(t, d), 1, leaves...)
			raws := []api.Raw{removed("journal-000002")}
			if tail != "" {
				raws = append(raws, cut("journal-000001", len(whole)))
			}
			holdRaws(t, d, n, raws...)
			j := open(t, d)
			holdRaws(t, d, n+len(raws))
			add(t, j, "c")
			hold(t, open(t, d), 1, append(slices.Clone(leaves), "c")...)
		}
	}
}

func TestOpenOfALostLeaf(t *testing.T) {
	most, great, greatest := string(some(3, api.MaxLeaf)), string(some(4, api.MaxLeaf+1)), string(some(5, api.MaxFrame))
	for _, file := range []string{
		fileOf(great), fileOf(greatest), fileOf(most, great), fileOf("a", great, "b"), fileOf("a", "b", greatest),
		fileOf(great) + "torn", fileOf("a", great) + "\xff\xff\xff\xff\x00\x00\x00\x00", fileOf(great, great),
	} {
		files := map[string]string{"journal-000004": file, "journal-000005": fileOf("c"), "journal-000006": "torn", "other": "x"}
		d := diskWith(t, 4096, files)
		n := d.Writes()
		for range 2 {
			if j, e := Open(d); j != nil || e != api.ErrLost {
				t.Fatalf("Open: %v, %d", j, int(e))
			}
			holdRaws(t, d, n)
			holdFiles(t, d, files)
		}
	}
}

func TestOpenLooksAtNoGreaterGeneration(t *testing.T) {
	most := string(some(3, api.MaxLeaf))
	d := diskWith(t, 4096, map[string]string{"journal-000004": fileOf(most, "a"), "journal-000005": fileOf(string(some(4, api.MaxLeaf+1)))})
	hold(t, open(t, d), 4, most, "a")
	holdFiles(t, d, map[string]string{"journal-000004": fileOf(most, "a")})
}

// P13.3

func TestAddIsOneAppend(t *testing.T) {
	for _, sector := range []int{1, 3, 8, 9, 64, 4096} {
		d, o := newDisk(t, sector), newDisk(t, sector)
		j := open(t, d)
		want(t, "Create", o.Create("journal-000001"), api.OK)
		var leaves []string
		for i, n := range []int{1, 0, 0, 7, 30, 2, 55, 56, 57, 8} {
			leaf := some(i, n)
			leaves = append(leaves, string(leaf))
			want(t, "Add", j.Add(leaf), api.OK)
			want(t, "Append", o.Append("journal-000001", framed(leaf)), api.OK)
			hold(t, j, 1, leaves...)
			if !d.Same(o) || d.Writes() != o.Writes() {
				t.Fatal("other writes than those of one Append each", sector, i)
			}
			for k := range o.Writes() {
				raw, _ := o.Raw(k)
				holdRaws(t, after(t, d, k+1), k, raw)
			}
		}
		hold(t, open(t, d), 1, leaves...)
	}
}

func TestAddAtTheLimit(t *testing.T) {
	d := newDisk(t, 4096)
	j := open(t, d)
	most := some(1, api.MaxLeaf)
	want(t, "Add", j.Add(most), api.OK)
	n := d.Writes()
	for _, size := range []int{api.MaxLeaf + 1, api.MaxLeaf + 2, api.MaxFrame, api.MaxFrame + 1} {
		want(t, "Add", j.Add(some(2, size)), api.ErrBig)
		hold(t, j, 1, string(most))
		holdRaws(t, d, n)
	}
	add(t, j, "a")
	hold(t, j, 1, string(most), "a")
	hold(t, open(t, d), 1, string(most), "a")
}

func TestAddOfNothing(t *testing.T) {
	d := newDisk(t, 16)
	j := open(t, d)
	want(t, "Add", j.Add(nil), api.OK)
	want(t, "Add", j.Add([]byte{}), api.OK)
	hold(t, j, 1, "", "")
	hold(t, open(t, d), 1, "", "")
	holdFiles(t, d, map[string]string{"journal-000001": fileOf("", "")})
}

func TestAddOfTheSameLeafTwice(t *testing.T) {
	d := newDisk(t, 16)
	j := open(t, d)
	add(t, j, "a", "b", "a", "a")
	hold(t, j, 1, "a", "b", "a", "a")
	hold(t, open(t, d), 1, "a", "b", "a", "a")
}

func TestAddBehindWhatWasOpened(t *testing.T) {
	d := diskWith(t, 16, map[string]string{"journal-1234567": fileOf("a", "b") + "tor"})
	j := open(t, d)
	n := d.Writes()
	add(t, j, "c")
	hold(t, j, 1234567, "a", "b", "c")
	holdFiles(t, d, map[string]string{"journal-1234567": fileOf("a", "b", "c")})
	if d.Writes() == n {
		t.Fatal("no raw write")
	}
	hold(t, open(t, d), 1234567, "a", "b", "c")
}

func TestManyLeaves(t *testing.T) {
	d := newDisk(t, 4096)
	j := open(t, d)
	var leaves []string
	for i := range 2 * api.MaxPending {
		leaves = append(leaves, string(some(i, i%40)))
		add(t, j, leaves[i])
	}
	hold(t, j, 1, leaves...)
	hold(t, open(t, d), 1, leaves...)
	want(t, "Clear", j.Clear(api.MaxPending), api.OK)
	hold(t, j, 2, leaves[api.MaxPending:]...)
	hold(t, open(t, d), 2, leaves[api.MaxPending:]...)
}

// P13.4

func TestClearOfEachNumber(t *testing.T) {
	for n := range 6 {
		for k := -2; k <= n+2; k++ {
			d := newDisk(t, 4096)
			j := open(t, d)
			leaves := alphabet(n)
			add(t, j, leaves...)
			ahead := d.Writes()
			e := j.Clear(k)
			if k < 0 || k > n {
				want(t, "Clear", e, api.ErrArg)
				hold(t, j, 1, leaves...)
				holdRaws(t, d, ahead)
				continue
			}
			want(t, "Clear", e, api.OK)
			if k == 0 {
				hold(t, j, 1, leaves...)
				holdRaws(t, d, ahead)
				continue
			}
			raws := []api.Raw{created("journal-000002"), appended("journal-000002", fileOf(leaves[k:]...)), removed("journal-000001")}
			if k == n {
				raws = slices.Delete(raws, 1, 2)
			}
			hold(t, j, 2, leaves[k:]...)
			holdRaws(t, d, ahead, raws...)
			hold(t, open(t, d), 2, leaves[k:]...)
		}
	}
}

func TestClearIsOneAppend(t *testing.T) {
	for _, sector := range []int{1, 5, 9, 64} {
		d := newDisk(t, sector)
		j := open(t, d)
		leaves := []string{"a", "", string(some(1, 30)), "b", string(some(2, 70))}
		add(t, j, leaves...)
		o := after(t, d, d.Writes())
		want(t, "Clear", j.Clear(2), api.OK)
		want(t, "Create", o.Create("journal-000002"), api.OK)
		want(t, "Append", o.Append("journal-000002", []byte(fileOf(leaves[2:]...))), api.OK)
		want(t, "Remove", o.Remove("journal-000001"), api.OK)
		if d.Writes() != o.Writes() {
			t.Fatal("raw writes", d.Writes(), o.Writes())
		}
		for k := range o.Writes() {
			raw, _ := o.Raw(k)
			holdRaws(t, after(t, d, k+1), k, raw)
		}
	}
}

func TestClearOfNumbersFarOut(t *testing.T) {
	d := newDisk(t, 64)
	j := open(t, d)
	add(t, j, "a", "b")
	n := d.Writes()
	for _, k := range []int{math.MinInt, math.MinInt + 1, math.MinInt32, -1, 3, math.MaxInt32, 1 << 32, 1<<32 + 1, math.MaxInt - 1, math.MaxInt} {
		want(t, "Clear", j.Clear(k), api.ErrArg)
	}
	hold(t, j, 1, "a", "b")
	holdRaws(t, d, n)
}

func TestClearAgainAndAgain(t *testing.T) {
	d := newDisk(t, 16)
	j := open(t, d)
	var leaves []string
	for i := range 40 {
		leaf := string(some(i, i%7))
		add(t, j, leaf, leaf+"x")
		leaves = append(leaves, leaf, leaf+"x")
		k := min(1+i%3, len(leaves))
		want(t, "Clear", j.Clear(k), api.OK)
		leaves = leaves[k:]
		hold(t, j, i+2, leaves...)
		holdFiles(t, d, map[string]string{nameOf(i + 2): fileOf(leaves...)})
	}
	hold(t, open(t, d), 41, leaves...)
	want(t, "Clear", j.Clear(j.Len()), api.OK)
	hold(t, j, 42)
	holdFiles(t, d, map[string]string{"journal-000042": ""})
	want(t, "Clear", j.Clear(1), api.ErrArg)
	want(t, "Clear", j.Clear(0), api.OK)
	add(t, j, "z")
	hold(t, j, 42, "z")
	hold(t, open(t, d), 42, "z")
}

func TestClearWhereTheNameGrows(t *testing.T) {
	d := diskWith(t, 64, map[string]string{"journal-999999": fileOf("a", "b", "c")})
	j := open(t, d)
	want(t, "Clear", j.Clear(1), api.OK)
	hold(t, j, 1000000, "b", "c")
	holdFiles(t, d, map[string]string{"journal-1000000": fileOf("b", "c")})
	// Cut ahead of the Remove, the old file is the journal's, though its name stands behind the other.
	hold(t, open(t, after(t, d, d.Writes()-1)), 999999, "a", "b", "c")
}

func TestClearOfTheLastGeneration(t *testing.T) {
	d := diskWith(t, 64, map[string]string{"journal-2147483646": fileOf("a", "b", "c")})
	j := open(t, d)
	want(t, "Clear", j.Clear(1), api.OK)
	hold(t, j, 2147483647, "b", "c")
	holdFiles(t, d, map[string]string{"journal-2147483647": fileOf("b", "c")})
	n := d.Writes()
	for k, e := range map[int]api.Errno{
		-1: api.ErrArg, 0: api.OK, 1: api.ErrBig, 2: api.ErrBig, 3: api.ErrArg, math.MaxInt: api.ErrArg, math.MinInt: api.ErrArg,
	} {
		want(t, fmt.Sprint("Clear ", k), j.Clear(k), e)
		hold(t, j, 2147483647, "b", "c")
		holdRaws(t, d, n)
	}
	add(t, j, "d")
	hold(t, j, 2147483647, "b", "c", "d")
	hold(t, open(t, d), 2147483647, "b", "c", "d")
}

func TestClearOfTheLastGenerationWithoutLeaves(t *testing.T) {
	j := open(t, diskWith(t, 64, map[string]string{"journal-2147483647": ""}))
	want(t, "Clear", j.Clear(1), api.ErrArg)
	want(t, "Clear", j.Clear(0), api.OK)
	hold(t, j, 2147483647)
}

// P13.5

func TestClearWithAFileInTheWay(t *testing.T) {
	d := newDisk(t, 64)
	j := open(t, d)
	add(t, j, "a", "b")
	lay(t, d, map[string]string{"journal-000002": "x"})
	n := d.Writes()
	for range 2 {
		for k, e := range map[int]api.Errno{-1: api.ErrArg, 0: api.OK, 1: api.ErrThere, 2: api.ErrThere, 3: api.ErrArg} {
			want(t, fmt.Sprint("Clear ", k), j.Clear(k), e)
			hold(t, j, 1, "a", "b")
			holdRaws(t, d, n)
		}
	}
	add(t, j, "c")
	hold(t, j, 1, "a", "b", "c")
	want(t, "Remove", d.Remove("journal-000002"), api.OK)
	want(t, "Clear", j.Clear(2), api.OK)
	hold(t, j, 2, "c")
	holdFiles(t, d, map[string]string{"journal-000002": fileOf("c")})
}

func TestAddWithoutItsFile(t *testing.T) {
	d := newDisk(t, 64)
	j := open(t, d)
	add(t, j, "a", "b")
	want(t, "Rename", d.Rename("journal-000001", "aside"), api.OK)
	n := d.Writes()
	for range 2 {
		want(t, "Add", j.Add([]byte("c")), api.ErrMissing)
		want(t, "Add", j.Add(nil), api.ErrMissing)
		want(t, "Add", j.Add(some(1, api.MaxLeaf+1)), api.ErrBig)
		hold(t, j, 1, "a", "b")
		holdRaws(t, d, n)
	}
	want(t, "Rename", d.Rename("aside", "journal-000001"), api.OK)
	add(t, j, "d")
	hold(t, j, 1, "a", "b", "d")
	hold(t, open(t, d), 1, "a", "b", "d")
}

func TestClearWithoutItsFile(t *testing.T) {
	d := newDisk(t, 64)
	j := open(t, d)
	add(t, j, "a", "b")
	want(t, "Rename", d.Rename("journal-000001", "aside"), api.OK)
	n := d.Writes()
	for range 2 {
		for k, e := range map[int]api.Errno{-1: api.ErrArg, 0: api.OK, 1: api.ErrMissing, 2: api.ErrMissing, 3: api.ErrArg} {
			want(t, fmt.Sprint("Clear ", k), j.Clear(k), e)
			hold(t, j, 1, "a", "b")
			holdRaws(t, d, n)
		}
	}
	// With the next file in the way besides, the Create is the first that is refused.
	lay(t, d, map[string]string{"journal-000002": ""})
	want(t, "Clear", j.Clear(1), api.ErrThere)
	want(t, "Remove", d.Remove("journal-000002"), api.OK)
	want(t, "Rename", d.Rename("aside", "journal-000001"), api.OK)
	want(t, "Clear", j.Clear(1), api.OK)
	hold(t, j, 2, "b")
	hold(t, open(t, d), 2, "b")
}

// P13.6

// call is one of a journal's calls by the chapter's words: Add of a leaf, or Clear of k leaves.
type call struct {
	leaf  []byte
	clear int
}

// state is what a journal has: its generation and its leaves.
type state struct {
	generation int
	leaves     []string
}

func (s state) behind(c call) state {
	if c.leaf != nil {
		return state{s.generation, append(slices.Clone(s.leaves), string(c.leaf))}
	}
	if c.clear == 0 {
		return s
	}
	return state{s.generation + 1, s.leaves[c.clear:]}
}

func (c call) do(t *testing.T, j *Journal) {
	t.Helper()
	if c.leaf != nil {
		want(t, "Add", j.Add(c.leaf), api.OK)
		return
	}
	want(t, "Clear", j.Clear(c.clear), api.OK)
}

func stateOf(t *testing.T, j *Journal) state {
	t.Helper()
	return state{j.Generation(), leavesOf(t, j)}
}

func (s state) is(o state) bool {
	return s.generation == o.generation && slices.Equal(s.leaves, o.leaves)
}

// calls tells n calls by a reckoning that looks like chance.
func calls(seed uint32, n int) (l []call) {
	there := 0
	for i := range n {
		seed = seed*1664525 + 1013904223
		if there > 0 && seed>>24%3 == 0 {
			k := int(seed>>8) % (there + 1)
			l = append(l, call{clear: k})
			there -= k
			continue
		}
		l = append(l, call{leaf: some(i, int(seed>>16)%24)})
		there++
	}
	return l
}

// holdReopened fails unless a disk that was cut opens as one of two states, and the second Open changes nothing, wherever the first one was cut off.
func holdReopened(t *testing.T, d *disk.Disk, ahead, behind state) state {
	t.Helper()
	n := d.Writes()
	got := stateOf(t, open(t, d))
	if !got.is(ahead) && !got.is(behind) {
		t.Fatalf("opened as %v, neither %v nor %v", got, ahead, behind)
	}
	holdFiles(t, d, map[string]string{nameOf(got.generation): fileOf(got.leaves...)})
	m := d.Writes()
	if o := stateOf(t, open(t, d)); !o.is(got) || d.Writes() != m {
		t.Fatal("the second Open changed something", o, got)
	}
	for k := n; k <= m; k++ {
		o := after(t, d, k)
		if again := stateOf(t, open(t, o)); !again.is(got) {
			t.Fatalf("cut in Open: %v, not %v", again, got)
		}
		if !o.Same(d) {
			t.Fatal("cut in Open: other files")
		}
	}
	return got
}

func TestCrashesBehindEachRawWrite(t *testing.T) {
	for _, sector := range []int{1, 2, 7, 9, 16, 64, 4096} {
		for seed := range uint32(4) {
			d := newDisk(t, sector)
			j := open(t, d)
			ahead := state{generation: 1}
			for k := range d.Writes() + 1 {
				holdReopened(t, after(t, d, k), ahead, ahead)
			}
			for _, c := range calls(seed, 25) {
				behind := ahead.behind(c)
				n := d.Writes()
				c.do(t, j)
				if got := stateOf(t, j); !got.is(behind) {
					t.Fatalf("%v, not %v", got, behind)
				}
				for k := n; k <= d.Writes(); k++ {
					got := holdReopened(t, after(t, d, k), ahead, behind)
					if k == n && !got.is(ahead) || k == d.Writes() && !got.is(behind) {
						t.Fatal("a call that was not begun, or that was done, is told otherwise")
					}
				}
				ahead = behind
			}
		}
	}
}

func TestLivesThatEndInCrashes(t *testing.T) {
	for seed := range uint32(60) {
		d := newDisk(t, 1+int(seed)%19)
		chance := seed*2654435761 + 7
		now := stateOf(t, open(t, d))
		for life := range 12 {
			j := open(t, d)
			if got := stateOf(t, j); !got.is(now) {
				t.Fatalf("life %d: %v, not %v", life, got, now)
			}
			for step := range 4 {
				chance = chance*1664525 + 1013904223
				c := call{leaf: some(life*4+step, int(chance>>16)%30)}
				if len(now.leaves) > 0 && chance>>24%2 == 0 {
					c = call{clear: 1 + int(chance>>8)%len(now.leaves)}
				}
				ahead, n := now, d.Writes()
				c.do(t, j)
				now = now.behind(c)
				if step < 3 {
					continue
				}
				// The last call of a life is cut off somewhere.
				d = after(t, d, n+int(chance>>4)%(d.Writes()-n+1))
				now = holdReopened(t, d, ahead, now)
			}
		}
	}
}

func TestCrashesInAnOpenThatHasMuchToDo(t *testing.T) {
	files := map[string]string{
		"journal-000005": fileOf("a", "b") + "torn",
		"journal-000006": fileOf("b"), "journal-000007": "torn", "journal-1000000": "", "journal-999999": fileOf("c"),
	}
	for _, sector := range []int{1, 64} {
		d := diskWith(t, sector, files)
		n := d.Writes()
		is := state{5, []string{"a", "b"}}
		holdReopened(t, d, is, is)
		holdRaws(t, d, n, removed("journal-000006"), removed("journal-000007"), removed("journal-999999"), removed("journal-1000000"), cut("journal-000005", 18))
	}
}

// Rule 1 of DOC.md

func TestJournalsThatNobodyMade(t *testing.T) {
	for _, j := range []*Journal{nil, {}, new(Journal)} {
		want(t, "Add", j.Add([]byte("a")), api.ErrNil)
		want(t, "Add", j.Add(nil), api.ErrNil)
		want(t, "Add", j.Add(make([]byte, api.MaxLeaf+1)), api.ErrNil)
		for _, k := range []int{math.MinInt, -1, 0, 1, math.MaxInt} {
			want(t, "Clear", j.Clear(k), api.ErrNil)
		}
		if j.Len() != 0 || j.Generation() != 0 {
			t.Error(j.Len(), j.Generation())
		}
		all := j.All()
		if all == nil {
			t.Fatal("no iterator")
		}
		for range all {
			t.Error("a leaf of no journal")
		}
	}
}

// Rule 4 of DOC.md

func TestAddKeepsNothingOfItsLeaf(t *testing.T) {
	d := newDisk(t, 64)
	j := open(t, d)
	room := some(1, 20)
	was := bytes.Clone(room)
	leaf := room[5:10]
	want(t, "Add", j.Add(leaf), api.OK)
	if !bytes.Equal(room, was) {
		t.Fatal("what was handed in, or its spare room, was changed")
	}
	clear(room)
	hold(t, j, 1, string(was[5:10]))
	add(t, j, "b")
	want(t, "Clear", j.Clear(1), api.OK)
	hold(t, j, 2, "b")
	hold(t, open(t, after(t, d, 2)), 1, string(was[5:10]))
}

// spoil changes bytes, and all their spare room.
func spoil(b []byte) {
	b = b[:cap(b)]
	for i := range b {
		b[i] ^= 0xff
	}
}

func TestAllHandsOutNewMemory(t *testing.T) {
	d := newDisk(t, 64)
	leaves := []string{"a", "bc", "", string(some(1, 33))}
	j := open(t, d)
	add(t, j, leaves...)
	for _, j := range []*Journal{j, open(t, d)} {
		var all [][]byte
		for range 2 {
			for _, leaf := range j.All() {
				all = append(all, leaf)
			}
		}
		for i, leaf := range all {
			spoil(leaf)
			for k := i + 1; k < len(all); k++ {
				if string(all[k]) != leaves[k%len(leaves)] {
					t.Fatal("two leaves that were told share memory")
				}
			}
		}
		hold(t, j, 1, leaves...)
	}
	holdFiles(t, d, map[string]string{"journal-000001": fileOf(leaves...)})
	for _, leaf := range j.All() {
		spoil(leaf)
	}
	want(t, "Clear", j.Clear(1), api.OK)
	for _, leaf := range j.All() {
		spoil(leaf)
	}
	hold(t, j, 2, leaves[1:]...)
	holdFiles(t, d, map[string]string{"journal-000002": fileOf(leaves[1:]...)})
}

func TestJournalsOfTwoDisksAreApart(t *testing.T) {
	d := newDisk(t, 64)
	j := open(t, d)
	add(t, j, "a")
	o := after(t, d, d.Writes())
	x := open(t, o)
	add(t, x, "b")
	want(t, "Clear", j.Clear(1), api.OK)
	hold(t, x, 1, "a", "b")
	hold(t, j, 2)
	holdFiles(t, o, map[string]string{"journal-000001": fileOf("a", "b")})
	holdFiles(t, d, map[string]string{"journal-000002": ""})
}

// Rule 8 of DOC.md

func TestAllMayBeLeftAnywhere(t *testing.T) {
	j := open(t, newDisk(t, 64))
	leaves := alphabet(6)
	add(t, j, leaves...)
	all := j.All()
	for n := range len(leaves) {
		var got []string
		for i, leaf := range all {
			got = append(got, string(leaf))
			if i == n {
				break
			}
		}
		if !slices.Equal(got, leaves[:n+1]) {
			t.Fatal(n, got)
		}
	}
	told := 0
	all(func(int, []byte) bool { told++; return false })
	if told != 1 {
		t.Error("told on behind a false", told)
	}
	hold(t, j, 1, leaves...)
}

func TestAllTellsWhatIsThereAsTheRangeBegins(t *testing.T) {
	d := newDisk(t, 64)
	j := open(t, d)
	all := j.All()
	collect := func() (l []string) {
		for _, leaf := range all {
			l = append(l, string(leaf))
		}
		return l
	}
	if got := collect(); len(got) != 0 {
		t.Fatal(got)
	}
	add(t, j, "a", "b", "c", "d")
	if got := collect(); !slices.Equal(got, []string{"a", "b", "c", "d"}) {
		t.Fatal(got)
	}
	var got, within []string
	for i, leaf := range all {
		got = append(got, string(leaf))
		switch i {
		case 0:
			add(t, j, "e", "f", "g", "h", "i")
		case 1:
			want(t, "Clear", j.Clear(3), api.OK)
			add(t, j, "x")
			within = collect()
		case 2:
			want(t, "Clear", j.Clear(j.Len()), api.OK)
			add(t, j, "y", "z")
		}
	}
	if !slices.Equal(got, []string{"a", "b", "c", "d"}) || !slices.Equal(within, []string{"d", "e", "f", "g", "h", "i", "x"}) {
		t.Fatal(got, within)
	}
	if got := collect(); !slices.Equal(got, []string{"y", "z"}) {
		t.Fatal(got)
	}
	hold(t, j, 3, "y", "z")
	hold(t, open(t, d), 3, "y", "z")
}

func TestAllGoesOnOverTheLeavesThatWereCleared(t *testing.T) {
	j := open(t, newDisk(t, 64))
	add(t, j, "a", "b", "c")
	// Were the list shared, a leaf that is added behind a Clear would stand where the range goes.
	var got []string
	for i, leaf := range j.All() {
		if i == 0 {
			want(t, "Clear", j.Clear(2), api.OK)
			add(t, j, "x", "y")
			want(t, "Add", j.Add(some(1, api.MaxLeaf+1)), api.ErrBig)
		}
		got = append(got, string(leaf))
	}
	if !slices.Equal(got, []string{"a", "b", "c"}) {
		t.Fatal(got)
	}
	hold(t, j, 2, "c", "x", "y")
}

// The examples of the chapter

func TestExamples(t *testing.T) {
	d := newDisk(t, 64)
	j := open(t, d)
	holdFiles(t, d, map[string]string{"journal-000001": ""})
	add(t, j, "a", "b")
	want(t, "Clear", j.Clear(1), api.OK)
	hold(t, j, 2, "b")
	holdFiles(t, d, map[string]string{"journal-000002": fileOf("b")})

	o := after(t, d, d.Writes()-1)
	holdFiles(t, o, map[string]string{"journal-000001": fileOf("a", "b"), "journal-000002": fileOf("b")})
	hold(t, open(t, o), 1, "a", "b")
	holdFiles(t, o, map[string]string{"journal-000001": fileOf("a", "b")})

	want(t, "Append", d.Append("journal-000002", []byte{1, 2, 3}), api.OK)
	x := open(t, d)
	hold(t, x, 2, "b")
	holdFiles(t, d, map[string]string{"journal-000002": fileOf("b")})
	want(t, "Clear", x.Clear(2), api.ErrArg)
}
