package bundle

import (
	"bytes"
	"fmt"
	"maps"
	"math"
	"reflect"
	"regexp"
	"slices"
	"strconv"
	"strings"
	"testing"

	"coppice/api"
	"coppice/disk"
)

// some tells n bytes, others for each kind.
func some(kind, n int) string {
	b := make([]byte, n)
	v := uint32(kind)*2654435761 + 12345
	for i := range b {
		v = v*1664525 + 1013904223
		b[i] = byte(v >> 24)
	}
	return string(b)
}

// leafOf tells the leaf of a number; each fifth one has no bytes.
func leafOf(i int) string { return some(i, i*7%5) }

// leavesOf tells the first n of them.
func leavesOf(n int) (l []string) {
	for i := range n {
		l = append(l, leafOf(i))
	}
	return l
}

// laid tells leaves as they lie in a file, by the chapter's words.
func laid(leaves ...string) string {
	out := ""
	for _, leaf := range leaves {
		out += string([]byte{byte(len(leaf) / 256), byte(len(leaf) % 256)}) + leaf
	}
	return out
}

// wholeOf tells a file's whole leaves by the chapter's words, and the bytes behind them.
func wholeOf(b string, height int) (l []string, behind string) {
	for len(l) < 1<<height && len(b) >= 2 {
		n := 256*int(b[0]) + int(b[1])
		if len(b)-2 < n {
			break
		}
		l, b = append(l, b[2:2+n]), b[2+n:]
	}
	return l, b
}

// thereOf tells the leaves that are there by the chapter's words, out of a disk's files.
func thereOf(files map[string]string, height int) (l []string) {
	for number := 0; number < api.MaxLeaves>>height; number++ {
		own, _ := wholeOf(files[fileOf(height, number)], height)
		l = append(l, own...)
		if len(own) < 1<<height {
			break
		}
	}
	return l
}

// fileOf tells the name of a file by its number.
func fileOf(height, number int) string { return fmt.Sprintf("leaf/%d/%06d", height, number) }

// want fails unless an error is the one that is asked for.
func want(t *testing.T, what string, got, e api.Errno) {
	t.Helper()
	if got != e {
		t.Fatalf("%s: %d, not %d", what, int(got), int(e))
	}
}

func newDisk(t *testing.T, sector int) *disk.Disk {
	t.Helper()
	d, e := disk.New(sector)
	want(t, "disk.New", e, api.OK)
	return d
}

// lay puts files on a disk, in the order of their names.
func lay(t *testing.T, d *disk.Disk, files map[string]string) {
	t.Helper()
	for _, name := range slices.Sorted(maps.Keys(files)) {
		want(t, "Create "+name, d.Create(name), api.OK)
		want(t, "Append "+name, d.Append(name, []byte(files[name])), api.OK)
	}
}

func diskWith(t *testing.T, sector int, files map[string]string) *disk.Disk {
	t.Helper()
	d := newDisk(t, sector)
	lay(t, d, files)
	return d
}

// diskOf tells a disk with the first n leaves, put one by one.
func diskOf(t *testing.T, sector, height, n int) *disk.Disk {
	t.Helper()
	d := newDisk(t, sector)
	putUpTo(t, d, height, n)
	return d
}

// putUpTo puts those of the first n leaves that a disk has not.
func putUpTo(t *testing.T, d *disk.Disk, height, n int) {
	t.Helper()
	for i := count(t, d, height); i < n; i++ {
		want(t, fmt.Sprint("Put ", i), Put(d, height, i, []byte(leafOf(i))), api.OK)
	}
}

func count(t *testing.T, d *disk.Disk, height int) int {
	t.Helper()
	n, e := Count(d, height)
	want(t, "Count", e, api.OK)
	return n
}

func after(t *testing.T, d *disk.Disk, n int) *disk.Disk {
	t.Helper()
	o, e := d.After(n)
	want(t, "After", e, api.OK)
	return o
}

// filesOf tells all files of a disk.
func filesOf(t *testing.T, d *disk.Disk) map[string]string {
	t.Helper()
	out := map[string]string{}
	for name := range d.List() {
		size, e := d.Size(name)
		want(t, "Size", e, api.OK)
		b, e := d.Read(name, 0, size)
		want(t, "Read", e, api.OK)
		out[name] = string(b)
	}
	return out
}

func holdFiles(t *testing.T, d *disk.Disk, files map[string]string) {
	t.Helper()
	if got := filesOf(t, d); !maps.Equal(got, files) {
		t.Fatalf("the disk has %.300q, not %.300q", got, files)
	}
}

// rawsOf tells the raw writes from a number on.
func rawsOf(t *testing.T, d *disk.Disk, from int) (l []api.Raw) {
	t.Helper()
	for i := from; i < d.Writes(); i++ {
		raw, e := d.Raw(i)
		want(t, "Raw", e, api.OK)
		l = append(l, raw)
	}
	return l
}

// holdRaws fails unless the raw writes from a number on are just these.
func holdRaws(t *testing.T, d *disk.Disk, from int, l ...api.Raw) {
	t.Helper()
	got := rawsOf(t, d, from)
	if len(got) != len(l) || len(l) > 0 && !reflect.DeepEqual(got, l) {
		t.Fatalf("raw writes %.300v, not %.300v", got, l)
	}
}

func created(name string) api.Raw { return api.Raw{Kind: api.RawCreate, Name: name} }
func removed(name string) api.Raw { return api.Raw{Kind: api.RawRemove, Name: name} }
func cut(name string, size int) api.Raw {
	return api.Raw{Kind: api.RawCut, Name: name, Size: size}
}

// appended tells the raw writes of one Append behind so many bytes, by chapter 12's words.
func appended(name string, had int, s string, sector int) (l []api.Raw) {
	for len(s) > 0 {
		n := 1
		for n < len(s) && (had+n)%sector != 0 {
			n++
		}
		l = append(l, api.Raw{Kind: api.RawAppend, Name: name, Bytes: []byte(s[:n])})
		had, s = had+n, s[n:]
	}
	return l
}

// allOf tells the leaves, as All tells them.
func allOf(t *testing.T, d *disk.Disk, height int) (l []string) {
	t.Helper()
	for i, leaf := range All(d, height) {
		if i != len(l) {
			t.Fatalf("the leaf %d is told as %d", len(l), i)
		}
		l = append(l, string(leaf))
	}
	return l
}

// hold fails unless just these leaves are there.
func hold(t *testing.T, d *disk.Disk, height int, l []string) {
	t.Helper()
	if n := count(t, d, height); n != len(l) {
		t.Fatalf("height %d: Count %d, not %d", height, n, len(l))
	}
	if got := allOf(t, d, height); !slices.Equal(got, l) {
		t.Fatalf("height %d: All tells %.300q, not %.300q", height, got, l)
	}
}

// holdRead fails unless Read of an index answers what its file alone says by the chapter's words.
func holdRead(t *testing.T, d *disk.Disk, files map[string]string, height, index int) {
	t.Helper()
	l, _ := wholeOf(files[fileOf(height, index>>height)], height)
	at := index % (1 << height)
	b, e := Read(d, height, index)
	if at >= len(l) && (b != nil || e != api.ErrMissing) || at < len(l) && (string(b) != l[at] || e != api.OK) {
		t.Fatalf("Read(%d, %d): %.100q, %d", height, index, b, int(e))
	}
}

// holdReads does so for each index of the files up to a number.
func holdReads(t *testing.T, d *disk.Disk, height, numbers int) {
	t.Helper()
	files := filesOf(t, d)
	for index := range numbers << height {
		holdRead(t, d, files, height, index)
	}
}

// unchanged fails unless what is done leaves a disk as it was.
func unchanged(t *testing.T, d *disk.Disk, do func()) {
	t.Helper()
	was, wrote := filesOf(t, d), d.Writes()
	do()
	holdFiles(t, d, was)
	holdRaws(t, d, wrote)
}

// noHeights and noIndices are numbers that are none, from end to end.
var (
	noHeights = []int{0, -1, -2, -8, 9, 10, 16, 63, 64, 65, -63, -64, 256, 257, 1<<32 + 1, -1 << 32, math.MinInt32, math.MaxInt32, math.MinInt, math.MinInt + 1, math.MaxInt - 1, math.MaxInt}
	noIndices = []int{-1, -2, -256, 1 << 20, 1<<20 + 1, 1<<20 + 256, 1 << 21, 1 << 31, 1 << 32, 1<<32 + 1, 1 << 40, 1 << 62, math.MinInt32, math.MaxInt32, math.MinInt, math.MinInt + 1, math.MaxInt - 1, math.MaxInt}
)

// P15.1

func TestName(t *testing.T) {
	for _, x := range []struct {
		height, index int
		name          string
	}{
		{1, 0, "leaf/1/000000"}, {1, 1, "leaf/1/000000"}, {1, 2, "leaf/1/000001"}, {1, 3, "leaf/1/000001"}, {1, 19, "leaf/1/000009"}, {1, 20, "leaf/1/000010"},
		{1, 1999, "leaf/1/000999"}, {1, 2000, "leaf/1/001000"}, {1, 199999, "leaf/1/099999"}, {1, 200000, "leaf/1/100000"}, {1, 1<<20 - 2, "leaf/1/524287"}, {1, 1<<20 - 1, "leaf/1/524287"},
		{3, 7, "leaf/3/000000"}, {3, 8, "leaf/3/000001"}, {8, 0, "leaf/8/000000"}, {8, 255, "leaf/8/000000"}, {8, 256, "leaf/8/000001"}, {8, 1<<20 - 257, "leaf/8/004094"}, {8, 1<<20 - 1, "leaf/8/004095"},
	} {
		if got, e := Name(x.height, x.index); got != x.name || e != api.OK {
			t.Errorf("Name(%d, %d): %q, %d", x.height, x.index, got, int(e))
		}
	}
}

func TestNameOfEachIndex(t *testing.T) {
	for height := 1; height <= 8; height++ {
		for index := 0; index < api.MaxLeaves; index += 1 + index/5000 {
			if got, e := Name(height, index); got != fileOf(height, index/(1<<height)) || e != api.OK {
				t.Fatalf("Name(%d, %d): %q, %d", height, index, got, int(e))
			}
		}
	}
}

func TestNameOfNone(t *testing.T) {
	holdNone := func(height, index int) {
		if got, e := Name(height, index); got != "" || e != api.ErrArg {
			t.Errorf("Name(%d, %d): %q, %d", height, index, got, int(e))
		}
	}
	for _, index := range noIndices {
		for height := 1; height <= 8; height++ {
			holdNone(height, index)
		}
	}
	for _, height := range noHeights {
		for _, index := range append([]int{0, 1, 1<<20 - 1}, noIndices...) {
			holdNone(height, index)
		}
	}
}

// P15.2

func TestPutWrites(t *testing.T) {
	for height := 1; height <= 8; height++ {
		for _, sector := range []int{1, 2, 3, 7, 64, 4096} {
			d := newDisk(t, sector)
			files := map[string]string{}
			n := 2<<height + 3
			for i := range n {
				name, ahead := fileOf(height, i>>height), d.Writes()
				want(t, "Put", Put(d, height, i, []byte(leafOf(i))), api.OK)
				var raws []api.Raw
				if i%(1<<height) == 0 {
					raws = append(raws, created(name))
				}
				holdRaws(t, d, ahead, append(raws, appended(name, len(files[name]), laid(leafOf(i)), sector)...)...)
				files[name] += laid(leafOf(i))
			}
			holdFiles(t, d, files)
			hold(t, d, height, leavesOf(n))
		}
	}
}

func TestExample(t *testing.T) {
	d := newDisk(t, 64)
	for i, leaf := range []string{"a", "", "bc"} {
		want(t, "Put", Put(d, 1, i, []byte(leaf)), api.OK)
	}
	files := map[string]string{"leaf/1/000000": "\x00\x01a\x00\x00", "leaf/1/000001": "\x00\x02bc"}
	holdFiles(t, d, files)
	// A length and its leaf are appended together.
	holdRaws(t, d, 3, created("leaf/1/000001"), api.Raw{Kind: api.RawAppend, Name: "leaf/1/000001", Bytes: []byte("\x00\x02bc")})
	hold(t, d, 1, []string{"a", "", "bc"})
	holdReads(t, d, 1, 4)
	want(t, "Put", Put(d, 1, 4, nil), api.ErrRange)
	want(t, "Trim", Trim(d, 1, 4), api.ErrRange)
	holdFiles(t, d, files)
	want(t, "Trim", Trim(d, 1, 1), api.OK)
	holdFiles(t, d, map[string]string{"leaf/1/000000": "\x00\x01a"})
}

func TestPutOfEachLength(t *testing.T) {
	for _, n := range []int{0, 1, 2, 3, 254, 255, 256, 257, 511, 512, 4095, 4096, 32767, 32768, 65279, 65280, api.MaxLeaf - 1, api.MaxLeaf} {
		d := newDisk(t, 4096)
		l := []string{some(n, n), some(n+1, n), "x"}
		for i, leaf := range l {
			want(t, "Put", Put(d, 1, i, []byte(leaf)), api.OK)
		}
		holdFiles(t, d, map[string]string{fileOf(1, 0): laid(l[:2]...), fileOf(1, 1): laid("x")})
		hold(t, d, 1, l)
		holdReads(t, d, 1, 2)
	}
	d := newDisk(t, 64)
	want(t, "Put", Put(d, 8, 0, nil), api.OK)
	want(t, "Put", Put(d, 8, 1, []byte{}), api.OK)
	hold(t, d, 8, []string{"", ""})
}

func TestPutOfALeafThatIsTooLong(t *testing.T) {
	d := diskOf(t, 64, 1, 3)
	unchanged(t, d, func() {
		for _, n := range []int{api.MaxLeaf + 1, api.MaxLeaf + 2, 2*api.MaxLeaf + 2, 1 << 20} {
			leaf := make([]byte, n)
			for _, index := range []int{0, 3, 4, api.MaxLeaves - 1} {
				want(t, "Put", Put(d, 1, index, leaf), api.ErrBig)
			}
			want(t, "Put", Put(d, 1, api.MaxLeaves, leaf), api.ErrArg)
			want(t, "Put", Put(d, 1, -1, leaf), api.ErrArg)
			want(t, "Put", Put(d, 0, 3, leaf), api.ErrArg)
			want(t, "Put", Put(d, 9, 3, leaf), api.ErrArg)
			want(t, "Put", Put(nil, 1, 3, leaf), api.ErrNil)
		}
	})
}

func TestPutIntoAnEmptyFile(t *testing.T) {
	for height := 1; height <= 8; height++ {
		for ahead := range 2 {
			n := ahead << height
			d := diskOf(t, 4096, height, n)
			lay(t, d, map[string]string{fileOf(height, ahead): ""})
			wrote := d.Writes()
			want(t, "Put", Put(d, height, n, []byte("leaf")), api.OK)
			holdRaws(t, d, wrote, appended(fileOf(height, ahead), 0, laid("leaf"), 4096)...)
			hold(t, d, height, append(leavesOf(n), "leaf"))
		}
	}
}

func TestPutElsewhere(t *testing.T) {
	for height := 1; height <= 3; height++ {
		for n := range 3<<height + 2 {
			d := diskOf(t, 64, height, n)
			unchanged(t, d, func() {
				for i := range 4 << height {
					if i != n {
						want(t, fmt.Sprint("Put ", i, " of ", n), Put(d, height, i, []byte("leaf")), api.ErrRange)
					}
				}
				want(t, "Put far out", Put(d, height, api.MaxLeaves-1, nil), api.ErrRange)
			})
			putUpTo(t, d, height, n+1)
			hold(t, d, height, leavesOf(n+1))
		}
	}
}

func TestPutOfNoPlace(t *testing.T) {
	d := diskOf(t, 64, 1, 3)
	unchanged(t, d, func() {
		for _, index := range noIndices {
			for height := 1; height <= 8; height++ {
				want(t, fmt.Sprint("Put ", height, index), Put(d, height, index, nil), api.ErrArg)
			}
		}
		for _, height := range noHeights {
			for _, index := range append([]int{0, 3}, noIndices...) {
				want(t, fmt.Sprint("Put ", height, index), Put(d, height, index, nil), api.ErrArg)
			}
		}
	})
}

func TestPutWhereSomethingIsTorn(t *testing.T) {
	whole := laid(some(9, 300))
	for height := 1; height <= 3; height++ {
		for n := range 2<<height + 1 {
			for _, torn := range []string{"\x00", "\x01", "\xff", "\x00\x01", "\xff\xff", "\x00\x02x", whole[:3], whole[:len(whole)-1]} {
				files := filesOf(t, diskOf(t, 4096, height, n))
				files[fileOf(height, n>>height)] += torn
				d := diskWith(t, 4096, files)
				unchanged(t, d, func() {
					want(t, "Put", Put(d, height, n, []byte("leaf")), api.ErrLost)
					want(t, "Put", Put(d, height, n, nil), api.ErrLost)
					want(t, "Put", Put(d, height, n, make([]byte, api.MaxLeaf+1)), api.ErrBig)
					want(t, "Put behind", Put(d, height, n+1, nil), api.ErrRange)
					if n > 0 {
						want(t, "Put ahead", Put(d, height, n-1, nil), api.ErrRange)
					}
					hold(t, d, height, leavesOf(n))
				})
				want(t, "Trim", Trim(d, height, n), api.OK)
				putUpTo(t, d, height, n+1)
				hold(t, d, height, leavesOf(n+1))
			}
		}
	}
}

func TestWhatIsTornElsewhere(t *testing.T) {
	// Bytes behind a full file's leaves, those of a later file and of another height lie not in the file of the leaf.
	files := map[string]string{
		fileOf(1, 0): laid("a", "b") + "torn", fileOf(1, 1): laid("c"), fileOf(1, 2): "\xff", fileOf(2, 0): "\xff", fileOf(8, 0): "\xff",
	}
	d := diskWith(t, 64, files)
	hold(t, d, 1, []string{"a", "b", "c"})
	want(t, "Put", Put(d, 1, 3, []byte("d")), api.OK)
	files[fileOf(1, 1)] += laid("d")
	holdFiles(t, d, files)
	want(t, "Put", Put(d, 1, 4, []byte("e")), api.ErrLost)
	hold(t, d, 1, []string{"a", "b", "c", "d"})
}

func TestPutJoinsWhatLiesBehind(t *testing.T) {
	// The leaf that fills a gap makes those of the next files be there.
	d := diskWith(t, 64, map[string]string{fileOf(1, 0): laid("a"), fileOf(1, 1): laid("c", "d"), fileOf(1, 2): laid("e")})
	hold(t, d, 1, []string{"a"})
	for _, index := range []int{0, 2, 3, 4, 5} {
		want(t, "Put", Put(d, 1, index, []byte("x")), api.ErrRange)
	}
	want(t, "Put", Put(d, 1, 1, []byte("b")), api.OK)
	hold(t, d, 1, []string{"a", "b", "c", "d", "e"})
	want(t, "Put", Put(d, 1, 5, []byte("f")), api.OK)
	want(t, "Put", Put(d, 1, 6, []byte("g")), api.OK)
	hold(t, d, 1, []string{"a", "b", "c", "d", "e", "f", "g"})
}

func TestPutOfAnyLeaf(t *testing.T) {
	// Leaves that are alike are put as often as they come, and none is taken for a length.
	l := []string{"", "", "a", "a", "\x00\x01", "\x00\x00\x00", "\xff\xff", laid("a", "b"), "\x00", ""}
	for height := 1; height <= 4; height++ {
		d := newDisk(t, 3)
		for i, leaf := range l {
			want(t, "Put", Put(d, height, i, []byte(leaf)), api.OK)
			hold(t, d, height, l[:i+1])
		}
		holdReads(t, d, height, 6)
	}
}

// P15.3

func TestRead(t *testing.T) {
	for height := 1; height <= 8; height++ {
		d := diskOf(t, 64, height, 2<<height+1<<height/2+1)
		unchanged(t, d, func() { holdReads(t, d, height, 5) })
	}
}

func TestReadLooksAtItsFileAlone(t *testing.T) {
	files := map[string]string{
		fileOf(2, 1): laid("a", "b", "", "c", "d", "e"), fileOf(2, 5): laid("f", "g") + "\x00", fileOf(2, 7): "", fileOf(1, 6): laid("h", "i"), fileOf(2, 262143): laid("j", "", "k", "l"), fileOf(2, 262144): laid("m"),
	}
	d := diskWith(t, 64, files)
	unchanged(t, d, func() {
		holdReads(t, d, 2, 10)
		holdReads(t, d, 1, 20)
		for index := api.MaxLeaves - 8; index < api.MaxLeaves; index++ {
			holdRead(t, d, files, 2, index)
		}
	})
	if b, e := Read(d, 2, api.MaxLeaves-1); string(b) != "l" || e != api.OK {
		t.Error(string(b), int(e))
	}
	hold(t, d, 2, nil)
}

func TestReadOfEachSize(t *testing.T) {
	all := laid("abc", "", some(1, 300), "d", "e", "f")
	for size := range len(all) + 1 {
		d := diskWith(t, 4096, map[string]string{fileOf(2, 3): all[:size]})
		files := filesOf(t, d)
		for index := 8; index < 20; index++ {
			holdRead(t, d, files, 2, index)
		}
	}
}

func TestReadOfNoPlace(t *testing.T) {
	d := diskWith(t, 64, map[string]string{fileOf(1, 0): laid("a", "b"), fileOf(1, 524288): laid("c", "d"), fileOf(0, 0): laid("e"), fileOf(9, 0): laid("f"), fileOf(-1, 0): laid("g")})
	holdNone := func(height, index int) {
		if b, e := Read(d, height, index); b != nil || e != api.ErrArg {
			t.Errorf("Read(%d, %d): %q, %d", height, index, b, int(e))
		}
	}
	unchanged(t, d, func() {
		for _, index := range noIndices {
			for height := 1; height <= 8; height++ {
				holdNone(height, index)
			}
		}
		for _, height := range noHeights {
			for _, index := range append([]int{0, 1}, noIndices...) {
				holdNone(height, index)
			}
		}
	})
}

// P15.4

func TestCountOfEachSize(t *testing.T) {
	// The file ahead may be longer than its leaves, and one lies behind.
	for height := 1; height <= 2; height++ {
		leaves := leavesOf(2 << height)
		whole := laid(leaves[1<<height:]...) + laid("more")
		for size := range len(whole) + 1 {
			for _, more := range []string{"", "\xff", "\x00\x00\x00"} {
				files := map[string]string{fileOf(height, 0): laid(leaves[:1<<height]...) + more, fileOf(height, 1): whole[:size], fileOf(height, 2): laid("next") + "\xff"}
				d := diskWith(t, 4096, files)
				unchanged(t, d, func() { hold(t, d, height, thereOf(files, height)) })
			}
		}
	}
}

func TestWholeLeavesByExamples(t *testing.T) {
	for _, x := range []struct {
		file string
		l    []string
	}{
		{"", nil}, {"\x00", nil}, {"\x00\x00", []string{""}}, {"\x00\x01", nil}, {"\x00\x01a", []string{"a"}}, {"\x00\x01ab", []string{"a"}}, {"\x00\x01a\x00", []string{"a"}}, {"\x00\x00\x00\x00", []string{"", ""}},
		{"\x00\x00\x00\x00\x00\x00", []string{"", ""}}, {"\x01\x00" + some(0, 255), nil}, {"\x01\x00" + some(0, 256), []string{some(0, 256)}}, {"\xff\xff" + some(0, 65534), nil}, {"\xff\xff" + some(0, 65535), []string{some(0, 65535)}},
	} {
		hold(t, diskWith(t, 4096, map[string]string{"leaf/1/000000": x.file}), 1, x.l)
	}
}

func TestHeightsAreApart(t *testing.T) {
	d := newDisk(t, 64)
	sizes := map[int]int{1: 5, 2: 9, 3: 0, 4: 17, 7: 1, 8: 260}
	for height, n := range sizes {
		for i := range n {
			want(t, "Put", Put(d, height, i, []byte(fmt.Sprint(height, i))), api.OK)
		}
	}
	for height := 1; height <= 8; height++ {
		var l []string
		for i := range sizes[height] {
			l = append(l, fmt.Sprint(height, i))
		}
		hold(t, d, height, l)
	}
	files := filesOf(t, d)
	want(t, "Trim", Trim(d, 2, 4), api.OK)
	delete(files, fileOf(2, 1))
	delete(files, fileOf(2, 2))
	holdFiles(t, d, files)
}

func TestFilesThatAreNone(t *testing.T) {
	for _, files := range []map[string]string{
		{}, {fileOf(1, 1): laid("a", "b")}, {fileOf(1, 0): "", fileOf(1, 1): laid("a", "b")}, {fileOf(1, 0): "\xff", fileOf(1, 1): laid("a", "b")},
		{"leaf/1/0": laid("a"), "leaf/1/00000": laid("a"), "leaf/1/0000000": laid("a"), "leaf/1/": laid("a"), "leaf/01/000000": laid("a"), "leaf/000000": laid("a"), "/leaf/1/000000": laid("a"), "Leaf/1/000000": laid("a"), "tile/1/0/000": laid("a")},
	} {
		hold(t, diskWith(t, 64, files), 1, nil)
	}
}

func TestAsManyAsMayBe(t *testing.T) {
	for _, height := range []int{4, 8} {
		d := newDisk(t, 4096)
		full := make([]byte, 2<<height)
		last := api.MaxLeaves>>height - 1
		for number := range last {
			want(t, "Create", d.Create(fileOf(height, number)), api.OK)
			want(t, "Append", d.Append(fileOf(height, number), full), api.OK)
		}
		// What lies behind the last file that may be is none of the leaves.
		lay(t, d, map[string]string{fileOf(height, last): string(full[2:]), fileOf(height, last+1): laid("x")})
		if n := count(t, d, height); n != api.MaxLeaves-1 {
			t.Fatal(n)
		}
		want(t, "Put", Put(d, height, api.MaxLeaves-1, []byte("last")), api.OK)
		n := 0
		for i, leaf := range All(d, height) {
			if i != n || (string(leaf) == "last") != (i == api.MaxLeaves-1) {
				t.Fatal(i, leaf)
			}
			n++
		}
		if n != api.MaxLeaves || count(t, d, height) != n {
			t.Fatal(n)
		}
		wrote := d.Writes()
		want(t, "Put", Put(d, height, api.MaxLeaves, nil), api.ErrArg)
		want(t, "Put", Put(d, height, api.MaxLeaves-1, nil), api.ErrRange)
		want(t, "Trim", Trim(d, height, api.MaxLeaves+1), api.ErrRange)
		holdRaws(t, d, wrote)
		want(t, "Trim", Trim(d, height, api.MaxLeaves-1), api.OK)
		holdRaws(t, d, wrote, cut(fileOf(height, last), 2<<height-2))
		want(t, "Trim", Trim(d, height, api.MaxLeaves-1<<height), api.OK)
		holdRaws(t, d, wrote+1, removed(fileOf(height, last)))
		want(t, "Trim", Trim(d, height, 0), api.OK)
		holdFiles(t, d, map[string]string{fileOf(height, last+1): laid("x")})
	}
}

func TestLooksOfNoHeight(t *testing.T) {
	d := diskOf(t, 64, 1, 3)
	lay(t, d, map[string]string{fileOf(9, 0): laid("a"), fileOf(0, 0): laid("a"), fileOf(-1, 0): laid("a"), "leaf//000000": laid("a")})
	unchanged(t, d, func() {
		for _, height := range noHeights {
			if n, e := Count(d, height); n != 0 || e != api.ErrArg {
				t.Errorf("Count(%d): %d, %d", height, n, int(e))
			}
			if l := allOf(t, d, height); l != nil {
				t.Errorf("All(%d): %q", height, l)
			}
		}
	})
}

// P15.5

// numbersOf tells the numbers of a height's files, rising.
func numbersOf(files map[string]string, height int) (l []int) {
	form := regexp.MustCompile(fmt.Sprintf(`^leaf/%d/([0-9]{6})$`, height))
	for name := range files {
		if found := form.FindStringSubmatch(name); found != nil {
			number, _ := strconv.Atoi(found[1])
			if number<<height < api.MaxLeaves {
				l = append(l, number)
			}
		}
	}
	slices.Sort(l)
	return l
}

// holdTrim fails unless a Trim writes what the chapter says, in its order, and leaves the first n leaves.
func holdTrim(t *testing.T, d *disk.Disk, height, n int) {
	t.Helper()
	files, ahead := filesOf(t, d), d.Writes()
	l := thereOf(files, height)[:n]
	var raws []api.Raw
	for _, number := range slices.Backward(numbersOf(files, height)) {
		if number<<height >= n {
			raws = append(raws, removed(fileOf(height, number)))
			delete(files, fileOf(height, number))
		}
	}
	name := fileOf(height, n>>height)
	if b, there := files[name]; there {
		keep := laid(l[n>>height<<height:]...)
		if len(b) > len(keep) {
			raws = append(raws, cut(name, len(keep)))
		}
		files[name] = keep
	}
	want(t, fmt.Sprint("Trim to ", n), Trim(d, height, n), api.OK)
	holdRaws(t, d, ahead, raws...)
	holdFiles(t, d, files)
	hold(t, d, height, l)
}

func TestTrimToEachNumber(t *testing.T) {
	for height := 1; height <= 3; height++ {
		for n := range 3<<height + 2 {
			for to := range n + 1 {
				for _, torn := range []string{"", "\x00", "\x00\x05leaf"} {
					d := diskOf(t, 64, height, n)
					name := fileOf(height, n>>height)
					if torn != "" && n%(1<<height) == 0 {
						want(t, "Create", d.Create(name), api.OK)
					}
					if torn != "" {
						want(t, "Append", d.Append(name, []byte(torn)), api.OK)
					}
					holdTrim(t, d, height, to)
					holdFiles(t, d, filesOf(t, diskOf(t, 64, height, to)))
					putUpTo(t, d, height, n+2)
					hold(t, d, height, leavesOf(n+2))
				}
			}
		}
	}
}

func TestTrimOfGreatFiles(t *testing.T) {
	for height := 4; height <= 8; height++ {
		n := 2<<height + 5
		d := diskOf(t, 4096, height, n)
		for _, to := range []int{n, n - 1, 2<<height + 1, 2 << height, 2<<height - 1, 1<<height + 1, 1 << height, 1<<height - 1, 1, 0, 0} {
			holdTrim(t, d, height, to)
			holdReads(t, d, height, 3)
		}
		holdFiles(t, d, map[string]string{})
	}
}

func TestTrimWrites(t *testing.T) {
	files := map[string]string{fileOf(1, 0): laid("a", "bc"), fileOf(1, 1): laid("", "d"), fileOf(1, 2): laid("e") + "\xff"}
	for n, raws := range [][]api.Raw{
		{removed(fileOf(1, 2)), removed(fileOf(1, 1)), removed(fileOf(1, 0))},
		{removed(fileOf(1, 2)), removed(fileOf(1, 1)), cut(fileOf(1, 0), 3)},
		{removed(fileOf(1, 2)), removed(fileOf(1, 1))},
		{removed(fileOf(1, 2)), cut(fileOf(1, 1), 2)},
		{removed(fileOf(1, 2))},
		{cut(fileOf(1, 2), 3)},
	} {
		d := diskWith(t, 64, files)
		wrote := d.Writes()
		want(t, "Trim", Trim(d, 1, n), api.OK)
		holdRaws(t, d, wrote, raws...)
		hold(t, d, 1, []string{"a", "bc", "", "d", "e"}[:n])
		unchanged(t, d, func() { want(t, "Trim", Trim(d, 1, n), api.OK) })
	}
}

// fill makes a height's MaxLeaves leaves be there, each without bytes.
func fill(t *testing.T, d *disk.Disk, height int) {
	t.Helper()
	leaves := make([]byte, 2<<height)
	for number := range api.MaxLeaves >> height {
		name := fileOf(height, number)
		if d.Create(name) != api.OK || d.Append(name, leaves) != api.OK {
			t.Fatal(name)
		}
	}
	if n := count(t, d, height); n != api.MaxLeaves {
		t.Fatal(height, n)
	}
}

// holdTrimOfAll fails unless Trim(MaxLeaves) does just these raw writes.
func holdTrimOfAll(t *testing.T, d *disk.Disk, height int, raws ...api.Raw) {
	t.Helper()
	wrote := d.Writes()
	want(t, "Trim", Trim(d, height, api.MaxLeaves), api.OK)
	holdRaws(t, d, wrote, raws...)
}

func TestTrimOfAsManyAsMayBe(t *testing.T) {
	for height := 1; height <= 8; height++ {
		d := newDisk(t, 4096)
		fill(t, d, height)
		own := api.MaxLeaves >> height
		name := fileOf(height, own)
		// Of the files behind all others only that of MaxLeaves is one of this height's that Trim looks at.
		lay(t, d, map[string]string{fileOf(height, own+1): "torn", fileOf(height, 999999): laid("a"), fmt.Sprintf("leaf/%d/%d", height, 1000000+own): "torn", fileOf(height%8+1, own): "torn", fileOf(9, own): "torn"})
		holdTrimOfAll(t, d, height)
		contents := []string{"xyz", "\x00", laid(""), laid("a", "bc"), string(make([]byte, 2<<height)), string(make([]byte, 2<<height+1)), some(height, 5000)}
		if height < 5 {
			// Each Trim goes through very many files here.
			contents = contents[height-1 : height]
		}
		want(t, "Create", d.Create(name), api.OK)
		for _, x := range contents {
			want(t, "Append", d.Append(name, []byte(x)), api.OK)
			holdTrimOfAll(t, d, height, cut(name, 0))
		}
		holdTrimOfAll(t, d, height)
		if n := count(t, d, height); n != api.MaxLeaves {
			t.Fatal(height, n)
		}
	}
}

func TestTrimOfOneFewer(t *testing.T) {
	for height := 5; height <= 8; height++ {
		d := newDisk(t, 4096)
		fill(t, d, height)
		own := api.MaxLeaves >> height
		// The file of n is another one, and that of MaxLeaves stays as it is.
		lay(t, d, map[string]string{fileOf(height, own): "xyz"})
		wrote := d.Writes()
		want(t, "Trim", Trim(d, height, api.MaxLeaves+1), api.ErrRange)
		want(t, "Trim", Trim(d, height, api.MaxLeaves-1), api.OK)
		want(t, "Trim", Trim(d, height, api.MaxLeaves), api.ErrRange)
		holdRaws(t, d, wrote, cut(fileOf(height, own-1), 2<<height-2))
		want(t, "Put", Put(d, height, api.MaxLeaves-1, nil), api.OK)
		holdTrimOfAll(t, d, height, cut(fileOf(height, own), 0))
		wrote = d.Writes()
		want(t, "Trim", Trim(d, height, api.MaxLeaves-1<<height), api.OK)
		holdRaws(t, d, wrote, removed(fileOf(height, own-1)))
	}
}

func TestTrimOfAsManyAsMayBeBehindALongFile(t *testing.T) {
	d := newDisk(t, 4096)
	fill(t, d, 8)
	// The last file's bytes behind its leaves are not those of the file of MaxLeaves.
	want(t, "Append", d.Append(fileOf(8, 4095), []byte("more")), api.OK)
	holdTrimOfAll(t, d, 8)
	lay(t, d, map[string]string{fileOf(8, 4096): laid("a") + "torn"})
	ahead := d.Writes()
	holdTrimOfAll(t, d, 8, cut(fileOf(8, 4096), 0))
	o := after(t, d, ahead)
	holdTrimOfAll(t, o, 8, cut(fileOf(8, 4096), 0))
	if !o.Same(d) {
		t.Error("other files than without the loss of power")
	}
}

func TestTrimOutOfRange(t *testing.T) {
	for n := range 6 {
		d := diskOf(t, 64, 1, n)
		lay(t, d, map[string]string{fileOf(1, 3): laid("a", "b"), fileOf(1, 7): "torn"})
		unchanged(t, d, func() {
			for _, to := range append([]int{n + 1, n + 2, 8, 16, api.MaxLeaves - 1}, noIndices...) {
				want(t, fmt.Sprint("Trim to ", to), Trim(d, 1, to), map[bool]api.Errno{true: api.ErrArg, false: api.ErrRange}[to < 0])
			}
		})
	}
}

func TestTrimOfNoHeight(t *testing.T) {
	d := diskOf(t, 64, 1, 3)
	lay(t, d, map[string]string{fileOf(9, 0): laid("a"), fileOf(0, 0): laid("a"), fileOf(-1, 0): laid("a")})
	unchanged(t, d, func() {
		for _, height := range noHeights {
			for _, n := range append([]int{0, 1, 3}, noIndices...) {
				want(t, fmt.Sprint("Trim ", height, n), Trim(d, height, n), api.ErrArg)
			}
		}
	})
}

func TestTrimTakesWhatLiesBehindAGap(t *testing.T) {
	files := map[string]string{"other": "x", fileOf(2, 3): "x", fileOf(1, 524288): "x", fileOf(1, 1000000): "x"}
	for _, number := range []int{0, 1, 2, 3, 5, 8, 9, 10, 11, 99, 100, 999, 1000, 1001, 9999, 10000, 99999, 100000, 524287} {
		files[fileOf(1, number)] = laid("a", "b")
	}
	files[fileOf(1, 3)] = laid("a") + "\xff"
	files[fileOf(1, 5)] = ""
	files[fileOf(1, 8)] = "torn"
	for to := range 8 {
		holdTrim(t, diskWith(t, 4096, files), 1, to)
	}
}

func TestTrimLeavesStrangers(t *testing.T) {
	files := map[string]string{}
	for _, name := range []string{
		"leaf", "leaf/", "leaf/1", "leaf/1/", "leaf/1/0", "leaf/1/5", "leaf/1/00005", "leaf/1/0000005", "leaf/1/0000000", "leaf/1/1000000", "leaf/1/00000x", "leaf/1/x00005", "leaf/1/+00005", "leaf/1/-00005", "leaf/1/-00000", "leaf/1/ 00005", "leaf/1/000005 ", "leaf/1/000005\n", "leaf/1/000005/", "leaf/1/00_005", "leaf/1/0x0005", "leaf/1/5e0000",
		"leaf/1/524288", "leaf/1/524289", "leaf/1/999999", "leaf/1/4294967296", "leaf/1/9223372036854775808", "leaf/1/18446744073709551616", "leaf/1/18446744073709551621", "leaf/1/4611686018427387904", "leaf/1/\u0660\u0660\u0660\u0660\u0660\u0665",
		"leaf/01/000005", "leaf/+1/000005", "leaf//000005", "leaf/000005", "000005", "5", "leaf/1/leaf/1/000005", "leaf/2/000000", "leaf/2/000005", "leaf/8/000005", "leaf/9/000005", "leaf/0/000005", "leaf/10/000005", "leaf/11/000005", "leaf/-1/000005",
		"Leaf/1/000005", "/leaf/1/000005", "xleaf/1/000005", "leaves/1/000005", "tile/1/0/005", "journal-000005", "checkpoint", "\x00", "\xff", strings.Repeat("9", api.MaxName), "leaf/1/" + strings.Repeat("0", api.MaxName-7),
	} {
		files[name] = laid("a", "b") + "torn"
	}
	for to := range 4 {
		all := maps.Clone(files)
		all[fileOf(1, 0)], all[fileOf(1, 1)], all[fileOf(1, 4)], all[fileOf(1, 524287)] = laid("a", "b"), laid("c"), laid("d", "e"), "torn"
		d := diskWith(t, 4096, all)
		want(t, "Trim", Trim(d, 1, to), api.OK)
		left := filesOf(t, d)
		for number := range 3 {
			delete(left, fileOf(1, number))
		}
		if !maps.Equal(left, files) {
			t.Error(to, "a stranger was touched, or a file of the leaves left")
		}
		hold(t, d, 1, []string{"a", "b", "c"}[:to])
	}
}

func TestTrimLeavesWhatLiesBehindAFullFilesLeaves(t *testing.T) {
	files := map[string]string{fileOf(1, 0): laid("a", "b") + "more", fileOf(1, 1): laid("c", "d", "e")}
	for to := range 5 {
		holdTrim(t, diskWith(t, 64, files), 1, to)
	}
	d := diskWith(t, 64, files)
	unchanged(t, d, func() { want(t, "Trim", Trim(d, 1, 4), api.OK) })
}

// P15.6

func TestPowerInAPut(t *testing.T) {
	for _, height := range []int{1, 2, 5} {
		for _, sector := range []int{1, 2, 3, 5, 64, 4096} {
			d := newDisk(t, sector)
			for i := range 2<<height + 2 {
				wrote := d.Writes()
				want(t, "Put", Put(d, height, i, []byte(leafOf(i))), api.OK)
				for k := wrote; k <= d.Writes(); k++ {
					has := i
					if k == d.Writes() {
						has++
					}
					holdPower(t, after(t, d, k), d, height, i, has)
				}
			}
		}
	}
}

// holdPower fails unless a disk that was cut in the midst of a Put of the leaf i, or behind it, can be made what it had become.
func holdPower(t *testing.T, o, done *disk.Disk, height, i, has int) {
	t.Helper()
	hold(t, o, height, leavesOf(has))
	name := fileOf(height, i>>height)
	if _, torn := wholeOf(filesOf(t, o)[name], height); torn != "" {
		want(t, "Put", Put(o, height, i, []byte(leafOf(i))), api.ErrLost)
	}
	want(t, "Trim", Trim(o, height, has), api.OK)
	hold(t, o, height, leavesOf(has))
	if _, torn := wholeOf(filesOf(t, o)[name], height); torn != "" {
		t.Fatalf("%q is torn", torn)
	}
	putUpTo(t, o, height, i+1)
	if !o.Same(done) {
		t.Fatal("other files than without the loss of power")
	}
}

func TestPowerInATrim(t *testing.T) {
	for height := 1; height <= 3; height++ {
		n := 3<<height + 1
		for to := range n + 1 {
			d := diskOf(t, 16, height, n)
			ahead := d.Writes()
			want(t, "Trim", Trim(d, height, to), api.OK)
			for k := ahead; k <= d.Writes(); k++ {
				o := after(t, d, k)
				has := count(t, o, height)
				if has < to || has > n {
					t.Fatal(n, to, has)
				}
				hold(t, o, height, leavesOf(has))
				want(t, "Trim", Trim(o, height, to), api.OK)
				if !o.Same(d) {
					t.Fatal("other files than without the loss of power")
				}
			}
		}
	}
}

// chance tells numbers that look like chance and are the same each time.
type chance uint64

func (c *chance) below(n int) int {
	*c = *c*6364136223846793005 + 1442695040888963407
	return int(uint64(*c) >> 33 % uint64(n))
}

// spoil does something to a disk that the package would not do.
func spoil(t *testing.T, c *chance, d *disk.Disk) *disk.Disk {
	t.Helper()
	name := fileOf(1+c.below(2), c.below(5))
	size, _ := d.Size(name)
	switch c.below(5) {
	case 0:
		d.Create(name)
	case 1:
		d.Append(name, []byte(laid(leavesOf(c.below(6))...)+some(1, c.below(3))))
	case 2:
		d.Cut(name, c.below(size+1))
	case 3:
		d.Remove(name)
	case 4:
		return after(t, d, d.Writes()-c.below(min(d.Writes()+1, 6)))
	}
	return d
}

// step does one call, and fails unless it answers and writes as the chapter's words say.
func step(t *testing.T, c *chance, d *disk.Disk) {
	t.Helper()
	height := 1 + c.below(2)
	files := filesOf(t, d)
	l := thereOf(files, height)
	if c.below(6) == 0 {
		to := c.below(len(l)+4) - 1
		if to < 0 || to > len(l) {
			unchanged(t, d, func() {
				want(t, "Trim", Trim(d, height, to), map[bool]api.Errno{true: api.ErrArg, false: api.ErrRange}[to < 0])
			})
			return
		}
		holdTrim(t, d, height, to)
		return
	}
	i, leaf, ahead := len(l), some(c.below(1000), c.below(9)), d.Writes()
	if c.below(8) == 0 {
		i = c.below(12)
	}
	name := fileOf(height, i>>height)
	b, there := files[name]
	if _, torn := wholeOf(b, height); i != len(l) || torn != "" {
		e := api.ErrRange
		if i == len(l) {
			e = api.ErrLost
		}
		unchanged(t, d, func() { want(t, "Put", Put(d, height, i, []byte(leaf)), e) })
		return
	}
	raws := appended(name, len(b), laid(leaf), d.Sector())
	if !there {
		raws = append([]api.Raw{created(name)}, raws...)
	}
	want(t, "Put", Put(d, height, i, []byte(leaf)), api.OK)
	holdRaws(t, d, ahead, raws...)
	files[name] += laid(leaf)
	holdFiles(t, d, files)
}

func TestLives(t *testing.T) {
	for life := range 60 {
		c := chance(life)
		d := newDisk(t, 1+c.below(80))
		for range 80 {
			step(t, &c, d)
			if c.below(5) == 0 {
				d = spoil(t, &c, d)
			}
			files := filesOf(t, d)
			for height := 1; height <= 2; height++ {
				hold(t, d, height, thereOf(files, height))
				for range 5 {
					holdRead(t, d, files, height, c.below(6<<height))
				}
			}
		}
	}
}

// Rule 1 of DOC.md

func TestNoDisk(t *testing.T) {
	for _, d := range []*disk.Disk{nil, {}, new(disk.Disk)} {
		for _, height := range append([]int{1, 8}, noHeights...) {
			for _, n := range append([]int{0, 1}, noIndices...) {
				want(t, "Put", Put(d, height, n, nil), api.ErrNil)
				want(t, "Trim", Trim(d, height, n), api.ErrNil)
				if b, e := Read(d, height, n); b != nil || e != api.ErrNil {
					t.Error(b, int(e))
				}
			}
			if n, e := Count(d, height); n != 0 || e != api.ErrNil {
				t.Error(n, int(e))
			}
			if l := allOf(t, d, height); l != nil {
				t.Error(l)
			}
		}
		if d != nil && !reflect.DeepEqual(*d, disk.Disk{}) {
			t.Error("something was done")
		}
	}
}

// Rule 4 of DOC.md

func TestPutKeepsNothingOfItsLeaf(t *testing.T) {
	room := []byte("leaf and its spare room")
	was := bytes.Clone(room)
	d := newDisk(t, 64)
	for i := range 5 {
		want(t, "Put", Put(d, 1, i, room[:4]), api.OK)
	}
	if !bytes.Equal(room, was) {
		t.Error("the leaf or its spare room was changed")
	}
	clear(room)
	hold(t, d, 1, []string{"leaf", "leaf", "leaf", "leaf", "leaf"})
}

// spend fails if there is something in the spare room of a list, and overwrites all of it.
func spend(t *testing.T, b []byte) {
	t.Helper()
	if strings.Trim(string(b[len(b):cap(b)]), "\x00") != "" {
		t.Error("what lies behind is handed out")
	}
	b = b[:cap(b)]
	for i := range b {
		b[i] ^= 255
	}
}

func TestWhatIsHandedOutIsNewMemory(t *testing.T) {
	d := diskOf(t, 64, 2, 11)
	was, raws := filesOf(t, d), rawsOf(t, d, 0)
	for i := range 11 {
		b, _ := Read(d, 2, i)
		o, _ := Read(d, 2, i)
		spend(t, b)
		if string(o) != leafOf(i) {
			t.Error(i, "two answers share memory")
		}
	}
	all := All(d, 2)
	for range 2 {
		for i, leaf := range all {
			if string(leaf) != leafOf(i) {
				t.Error(i, "shares memory with another one")
			}
			spend(t, leaf)
		}
	}
	holdFiles(t, d, was)
	holdRaws(t, d, 0, raws...)
	hold(t, d, 2, leavesOf(11))
}

// Rule 8 of DOC.md

func TestAllMayBeLeftAnywhere(t *testing.T) {
	d := diskOf(t, 64, 1, 7)
	all := All(d, 1)
	for stop := range 7 {
		var got []string
		all(func(i int, leaf []byte) bool {
			got = append(got, string(leaf))
			return i < stop
		})
		if !slices.Equal(got, leavesOf(stop+1)) {
			t.Error(stop, len(got))
		}
	}
	n := 0
	for range all {
		for i, leaf := range all {
			if string(leaf) != leafOf(i) {
				t.Error(i)
			}
			n++
		}
	}
	if n != 49 {
		t.Error(n)
	}
}

func TestAllTellsWhatIsThereAsTheRangeBegins(t *testing.T) {
	d := newDisk(t, 64)
	all := All(d, 1)
	for range all {
		t.Error("nothing is there")
	}
	for _, meanwhile := range []func(i int){
		func(i int) { putUpTo(t, d, 1, 6+i) },
		func(i int) { want(t, "Trim", Trim(d, 1, 4-i), api.OK) },
		func(int) { d.Remove(fileOf(1, 1)) },
		func(int) { d.Rename(fileOf(1, 0), fileOf(1, 1)) },
	} {
		want(t, "Trim", Trim(d, 1, 0), api.OK)
		putUpTo(t, d, 1, 5)
		var got []string
		for i, leaf := range all {
			if i != len(got) || i > 4 {
				t.Fatal(i, len(got))
			}
			got = append(got, string(leaf))
			meanwhile(i)
		}
		if !slices.Equal(got, leavesOf(5)) {
			t.Error(len(got))
		}
		hold(t, d, 1, thereOf(filesOf(t, d), 1))
	}
}
