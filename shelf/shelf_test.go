package shelf

import (
	"bytes"
	"fmt"
	"maps"
	"math"
	"math/big"
	"reflect"
	"slices"
	"strings"
	"testing"

	"coppice/api"
	"coppice/disk"
	"coppice/tile"
)

// some tells n bytes, others for each kind.
func some(kind, n int) []byte {
	b := make([]byte, n)
	v := uint32(kind)*2654435761 + 12345
	for i := range b {
		v = v*1664525 + 1013904223
		b[i] = byte(v >> 24)
	}
	return b
}

// digestOf tells a digest, another one for each kind.
func digestOf(kind int) api.Digest { return api.Digest(some(kind, 32)) }

// digestsOf tells n of them, of the kinds 0, 1 and so on.
func digestsOf(n int) (l []api.Digest) {
	for i := range n {
		l = append(l, digestOf(i))
	}
	return l
}

// bytesOf tells the bytes of digestsOf's digests from one up to (without) another.
func bytesOf(from, to int) string {
	var b []byte
	for _, x := range digestsOf(to)[from:] {
		b = append(b, x[:]...)
	}
	return string(b)
}

// mayBe tells by chapter 10's words, without a bound, whether a full tile may be.
func mayBe(height, level, index int) bool {
	if height < 1 || height > 8 || level < 0 || level > 100 || index < 0 {
		return false
	}
	behind := new(big.Int).Add(big.NewInt(int64(index)), big.NewInt(1))
	behind.Lsh(behind, uint(height*level+height))
	return behind.Cmp(big.NewInt(1<<48)) <= 0
}

// nameOf tells a file's name by chapter 10's words.
func nameOf(height, level, index int) string {
	digits := fmt.Sprint(index)
	for len(digits)%3 != 0 {
		digits = "0" + digits
	}
	name := fmt.Sprintf("tile/%d/%d/", height, level)
	for len(digits) > 3 {
		name += "x" + digits[:3] + "/"
		digits = digits[3:]
	}
	return name + digits
}

func tileOf(height, level, index, width int) api.Tile {
	return api.Tile{Height: height, Level: level, Index: index, Width: width}
}

// levelOf tells a level's digests by the chapter's words, out of a disk's files.
func levelOf(files map[string]string, height, level int) (l []api.Digest) {
	for index := 0; mayBe(height, level, index); index++ {
		b := files[nameOf(height, level, index)]
		for range 1 << height {
			if len(b) < 32 {
				return l
			}
			l = append(l, api.Digest([]byte(b[:32])))
			b = b[32:]
		}
	}
	return l
}

// want fails unless an error is the one that is asked for.
func want(t *testing.T, what string, got, e api.Errno) {
	t.Helper()
	if got != e {
		t.Fatalf("%s: %d, not %d", what, int(got), int(e))
	}
}

func newDisk(t *testing.T, sector int) *disk.Disk {
	t.Helper()
	d, e := disk.New(sector)
	want(t, "disk.New", e, api.OK)
	return d
}

// lay puts files on a disk, in the order of their names.
func lay(t *testing.T, d *disk.Disk, files map[string]string) {
	t.Helper()
	for _, name := range slices.Sorted(maps.Keys(files)) {
		want(t, "Create "+name, d.Create(name), api.OK)
		want(t, "Append "+name, d.Append(name, []byte(files[name])), api.OK)
	}
}

func diskWith(t *testing.T, sector int, files map[string]string) *disk.Disk {
	t.Helper()
	d := newDisk(t, sector)
	lay(t, d, files)
	return d
}

// diskOf tells a disk with the first n digests on a level, put one by one.
func diskOf(t *testing.T, sector, height, level, n int) *disk.Disk {
	t.Helper()
	d := newDisk(t, sector)
	putUpTo(t, d, height, level, n)
	return d
}

// putUpTo puts those of the first n digests that a level has not.
func putUpTo(t *testing.T, d *disk.Disk, height, level, n int) {
	t.Helper()
	for i := count(t, d, height, level); i < n; i++ {
		want(t, fmt.Sprint("Put ", i), Put(d, height, level, i, digestOf(i)), api.OK)
	}
}

func count(t *testing.T, d *disk.Disk, height, level int) int {
	t.Helper()
	n, e := Count(d, height, level)
	want(t, "Count", e, api.OK)
	return n
}

func after(t *testing.T, d *disk.Disk, n int) *disk.Disk {
	t.Helper()
	o, e := d.After(n)
	want(t, "After", e, api.OK)
	return o
}

// filesOf tells all files of a disk.
func filesOf(t *testing.T, d *disk.Disk) map[string]string {
	t.Helper()
	out := map[string]string{}
	for name := range d.List() {
		size, e := d.Size(name)
		want(t, "Size", e, api.OK)
		b, e := d.Read(name, 0, size)
		want(t, "Read", e, api.OK)
		out[name] = string(b)
	}
	return out
}

func holdFiles(t *testing.T, d *disk.Disk, files map[string]string) {
	t.Helper()
	if got := filesOf(t, d); !maps.Equal(got, files) {
		t.Fatalf("the disk has %.300q, not %.300q", got, files)
	}
}

// rawsOf tells the raw writes from a number on.
func rawsOf(t *testing.T, d *disk.Disk, from int) (l []api.Raw) {
	t.Helper()
	for i := from; i < d.Writes(); i++ {
		raw, e := d.Raw(i)
		want(t, "Raw", e, api.OK)
		l = append(l, raw)
	}
	return l
}

// holdRaws fails unless the raw writes from a number on are just these.
func holdRaws(t *testing.T, d *disk.Disk, from int, l ...api.Raw) {
	t.Helper()
	got := rawsOf(t, d, from)
	if len(got) != len(l) || len(l) > 0 && !reflect.DeepEqual(got, l) {
		t.Fatalf("raw writes %.300v, not %.300v", got, l)
	}
}

func created(name string) api.Raw { return api.Raw{Kind: api.RawCreate, Name: name} }
func removed(name string) api.Raw { return api.Raw{Kind: api.RawRemove, Name: name} }
func cut(name string, size int) api.Raw {
	return api.Raw{Kind: api.RawCut, Name: name, Size: size}
}

// appended tells the raw writes of one Append behind so many bytes, by chapter 12's words.
func appended(name string, had int, b []byte, sector int) (l []api.Raw) {
	for len(b) > 0 {
		n := 1
		for n < len(b) && (had+n)%sector != 0 {
			n++
		}
		l = append(l, api.Raw{Kind: api.RawAppend, Name: name, Bytes: bytes.Clone(b[:n])})
		had, b = had+n, b[n:]
	}
	return l
}

// allOf tells a level's digests, as All tells them.
func allOf(t *testing.T, d *disk.Disk, height, level int) []api.Digest {
	t.Helper()
	var l []api.Digest
	for i, x := range All(d, height, level) {
		if i != len(l) {
			t.Fatalf("the digest %d is told as %d", len(l), i)
		}
		l = append(l, x)
	}
	return l
}

// hold fails unless a level has just these digests.
func hold(t *testing.T, d *disk.Disk, height, level int, l []api.Digest) {
	t.Helper()
	if n := count(t, d, height, level); n != len(l) {
		t.Fatalf("height %d, level %d: Count %d, not %d", height, level, n, len(l))
	}
	if got := allOf(t, d, height, level); !slices.Equal(got, l) {
		t.Fatalf("height %d, level %d: All tells %d others", height, level, len(got))
	}
}

// holdReads fails unless Read tells of each tile within n digests, and of those a little beyond, what the digests say.
func holdReads(t *testing.T, d *disk.Disk, height, level int, l []api.Digest) {
	t.Helper()
	for index := range len(l)>>height + 2 {
		for width := 1; width <= 1<<height && mayBe(height, level, index); width++ {
			from := index << height
			b, e := Read(d, api.Tile{Height: height, Level: level, Index: index, Width: width})
			if from+width > len(l) {
				if b != nil || e != api.ErrMissing {
					t.Fatalf("Read %d %d: %d bytes, %d", index, width, len(b), int(e))
				}
				continue
			}
			var bytesThere []byte
			for _, x := range l[from : from+width] {
				bytesThere = append(bytesThere, x[:]...)
			}
			if e != api.OK || !bytes.Equal(b, bytesThere) {
				t.Fatalf("Read %d %d: other bytes, %d", index, width, int(e))
			}
		}
	}
}

// unchanged fails unless what is done leaves a disk as it was.
func unchanged(t *testing.T, d *disk.Disk, do func()) {
	t.Helper()
	was, wrote := filesOf(t, d), d.Writes()
	do()
	holdFiles(t, d, was)
	holdRaws(t, d, wrote)
}

// place is a height and a level.
type place struct{ height, level int }

// noPlaces are some of which the one is no height, or the other no level.
var noPlaces = []place{
	{0, 0}, {-1, 0}, {9, 0}, {10, 0}, {48, 0}, {63, 0}, {64, 0}, {65, 0}, {-64, 0}, {math.MaxInt, 0}, {math.MinInt, 0}, {1<<32 + 1, 0},
	{1, -1}, {8, -1}, {1, 48}, {1, 49}, {2, 24}, {3, 16}, {4, 12}, {5, 9}, {6, 8}, {7, 6}, {7, 7}, {8, 6}, {8, 7},
	{1, math.MaxInt}, {1, math.MinInt}, {8, math.MaxInt}, {8, math.MinInt}, {8, 1 << 61}, {8, 1 << 60}, {4, 1 << 62}, {2, 1 << 63 >> 1}, {1, 1 << 32}, {8, 1 << 32},
	{0, -1}, {9, 6}, {math.MinInt, math.MinInt}, {math.MaxInt, math.MaxInt}, {-8, -6}, {-1, 1 << 62},
}

// lastPlaces are each height's last level, with how many digests it has at most.
var lastPlaces = map[place]int{
	{1, 47}: 2, {2, 23}: 4, {3, 15}: 8, {4, 11}: 16, {5, 8}: 256, {6, 7}: 64, {7, 5}: 8192, {8, 5}: 256,
}

// farNumbers are whole numbers from end to end.
var farNumbers = []int{math.MinInt, math.MinInt + 1, math.MinInt32, -256, -2, -1, 1 << 31, 1 << 32, 1<<32 + 1, 1 << 47, 1<<48 - 1, 1 << 48, 1<<48 + 1, 1 << 56, 1 << 62, math.MaxInt - 1, math.MaxInt}

// P14.1

func TestName(t *testing.T) {
	for name, x := range map[string]api.Tile{
		"tile/8/1/005": {Height: 8, Level: 1, Index: 5}, "tile/1/0/000": {Height: 1}, "tile/1/0/001": {Height: 1, Index: 1},
		"tile/8/0/999": {Height: 8, Index: 999}, "tile/8/0/x001/000": {Height: 8, Index: 1000}, "tile/3/2/x001/x234/067": {Height: 3, Level: 2, Index: 1234067},
		"tile/1/47/000": {Height: 1, Level: 47}, "tile/8/5/000": {Height: 8, Level: 5}, "tile/8/0/x001/x099/x511/x627/775": {Height: 8, Index: 1<<40 - 1},
		"tile/1/0/x140/x737/x488/x355/327": {Height: 1, Index: 1<<47 - 1}, "tile/5/8/007": {Height: 5, Level: 8, Index: 7},
	} {
		if got, e := Name(x.Height, x.Level, x.Index); got != name || e != api.OK {
			t.Errorf("Name(%d, %d, %d): %q, %d", x.Height, x.Level, x.Index, got, int(e))
		}
	}
}

func holdName(t *testing.T, height, level, index int) {
	t.Helper()
	got, e := Name(height, level, index)
	if !mayBe(height, level, index) {
		if got != "" || e != api.ErrArg {
			t.Fatalf("Name(%d, %d, %d): %q, %d", height, level, index, got, int(e))
		}
		return
	}
	if got != nameOf(height, level, index) || e != api.OK {
		t.Fatalf("Name(%d, %d, %d): %q, %d", height, level, index, got, int(e))
	}
	x, e := tile.Parse(got)
	if e != api.OK || x != (api.Tile{Height: height, Level: level, Index: index, Width: 1 << height}) {
		t.Fatalf("%q is the path of %v", got, x)
	}
}

func TestNameAtTheEnds(t *testing.T) {
	for height := -2; height <= 11; height++ {
		for level := -2; level <= 52; level++ {
			for _, index := range append([]int{0, 1, 2, 9, 10, 99, 100, 999, 1000, 1001, 999999, 1000000}, farNumbers...) {
				holdName(t, height, level, index)
			}
			for power := range 63 {
				for near := -2; near <= 1; near++ {
					holdName(t, height, level, 1<<power+near)
				}
			}
		}
	}
}

func TestNameOfNoPlace(t *testing.T) {
	for _, p := range noPlaces {
		for _, index := range append([]int{0, 1}, farNumbers...) {
			if got, e := Name(p.height, p.level, index); got != "" || e != api.ErrArg {
				t.Errorf("Name(%d, %d, %d): %q, %d", p.height, p.level, index, got, int(e))
			}
		}
	}
}

// P14.2

func TestPutWrites(t *testing.T) {
	for height := 1; height <= 8; height++ {
		for _, sector := range []int{1, 7, 16, 31, 32, 33, 100, 4096} {
			level, n := height%3, 2<<height+3
			d := newDisk(t, sector)
			files := map[string]string{}
			for i := range n {
				x, name, ahead := digestOf(i), nameOf(height, level, i>>height), d.Writes()
				want(t, "Put", Put(d, height, level, i, x), api.OK)
				var raws []api.Raw
				if i%(1<<height) == 0 {
					raws = append(raws, created(name))
				}
				holdRaws(t, d, ahead, append(raws, appended(name, len(files[name]), x[:], sector)...)...)
				files[name] += string(x[:])
			}
			holdFiles(t, d, files)
			hold(t, d, height, level, digestsOf(n))
		}
	}
}

func TestExampleOfTwoRawWrites(t *testing.T) {
	d := newDisk(t, 16)
	x := digestOf(0)
	want(t, "Put", Put(d, 1, 0, 0, x), api.OK)
	holdRaws(t, d, 0, created("tile/1/0/000"),
		api.Raw{Kind: api.RawAppend, Name: "tile/1/0/000", Bytes: x[:16]}, api.Raw{Kind: api.RawAppend, Name: "tile/1/0/000", Bytes: x[16:]})
}

func TestPutIntoAnEmptyFile(t *testing.T) {
	for height := 1; height <= 8; height++ {
		for _, ahead := range []int{0, 1} {
			d := diskOf(t, 4096, height, 0, ahead<<height)
			name, x := nameOf(height, 0, ahead), digestOf(ahead<<height)
			lay(t, d, map[string]string{name: ""})
			n := d.Writes()
			want(t, "Put", Put(d, height, 0, ahead<<height, x), api.OK)
			holdRaws(t, d, n, appended(name, 0, x[:], 4096)...)
			hold(t, d, height, 0, digestsOf(ahead<<height+1))
		}
	}
}

func TestPutElsewhere(t *testing.T) {
	for height := 1; height <= 3; height++ {
		for n := range 3<<height + 2 {
			d := diskOf(t, 64, height, 1, n)
			unchanged(t, d, func() {
				for i := range 4 << height {
					if i != n {
						want(t, fmt.Sprint("Put ", i, " of ", n), Put(d, height, 1, i, digestOf(i)), api.ErrRange)
					}
				}
				want(t, "Put far out", Put(d, height, 1, 1<<(48-height)-1, digestOf(n)), api.ErrRange)
			})
			putUpTo(t, d, height, 1, n+1)
			hold(t, d, height, 1, digestsOf(n+1))
		}
	}
}

func TestPutOfNoNode(t *testing.T) {
	for height := 1; height <= 8; height++ {
		for level := 0; mayBe(height, level, 0); level++ {
			d := diskOf(t, 64, height, level, 1)
			nodes := 1 << (48 - height*level)
			unchanged(t, d, func() {
				for _, i := range []int{-1, -2, -1 << height, math.MinInt, math.MinInt32, nodes, nodes + 1, nodes + 1<<height, 1 << 48, 1 << 62, math.MaxInt} {
					want(t, fmt.Sprint("Put ", i), Put(d, height, level, i, digestOf(0)), api.ErrArg)
				}
				for _, i := range []int{nodes - 1, nodes - 1<<height, nodes / 2, 0} {
					if i != 1 {
						want(t, fmt.Sprint("Put ", i), Put(d, height, level, i, digestOf(0)), api.ErrRange)
					}
				}
			})
		}
	}
}

func TestPutOfNoPlace(t *testing.T) {
	d := diskOf(t, 64, 1, 0, 3)
	unchanged(t, d, func() {
		for _, p := range noPlaces {
			for _, i := range append([]int{0, 1, 3}, farNumbers...) {
				want(t, fmt.Sprint("Put ", p, i), Put(d, p.height, p.level, i, digestOf(0)), api.ErrArg)
			}
		}
	})
}

func TestLevelsThatAreFull(t *testing.T) {
	for p, most := range lastPlaces {
		d := diskOf(t, 4096, p.height, p.level, most)
		hold(t, d, p.height, p.level, digestsOf(most))
		// A file of a tile that may not be is none of the level's.
		lay(t, d, map[string]string{nameOf(p.height, p.level, most>>p.height): bytesOf(0, 1)})
		hold(t, d, p.height, p.level, digestsOf(most))
		unchanged(t, d, func() {
			want(t, "Put", Put(d, p.height, p.level, most, digestOf(0)), api.ErrArg)
			want(t, "Put", Put(d, p.height, p.level, most-1, digestOf(0)), api.ErrRange)
			want(t, "Trim", Trim(d, p.height, p.level, most), api.OK)
			want(t, "Trim", Trim(d, p.height, p.level, most+1), api.ErrRange)
		})
		want(t, "Trim", Trim(d, p.height, p.level, most-1), api.OK)
		hold(t, d, p.height, p.level, digestsOf(most-1))
	}
}

func TestPutWhereSomethingIsTorn(t *testing.T) {
	for height := 1; height <= 3; height++ {
		for n := range 2<<height + 1 {
			for torn := 1; torn < 32; torn++ {
				d := diskOf(t, 16, height, 0, n)
				name := nameOf(height, 0, n>>height)
				if n%(1<<height) == 0 {
					want(t, "Create", d.Create(name), api.OK)
				}
				want(t, "Append", d.Append(name, some(n, torn)), api.OK)
				unchanged(t, d, func() {
					want(t, "Put", Put(d, height, 0, n, digestOf(n)), api.ErrLost)
					want(t, "Put ahead", Put(d, height, 0, n-1, digestOf(n)), map[bool]api.Errno{true: api.ErrArg, false: api.ErrRange}[n == 0])
					want(t, "Put behind", Put(d, height, 0, n+1, digestOf(n)), api.ErrRange)
					hold(t, d, height, 0, digestsOf(n))
				})
				want(t, "Trim", Trim(d, height, 0, n), api.OK)
				want(t, "Put", Put(d, height, 0, n, digestOf(n)), api.OK)
				hold(t, d, height, 0, digestsOf(n+1))
			}
		}
	}
}

func TestWhatIsTornElsewhere(t *testing.T) {
	// Bytes behind a full file's digests, those of a later file, of another level and of another height lie not where a digest would come.
	d := diskWith(t, 64, map[string]string{
		nameOf(1, 0, 0): bytesOf(0, 2) + "more", nameOf(1, 0, 1): bytesOf(2, 3), nameOf(1, 0, 2): "torn", nameOf(1, 1, 0): "torn", nameOf(2, 0, 0): "torn",
	})
	was := filesOf(t, d)
	hold(t, d, 1, 0, digestsOf(3))
	want(t, "Put", Put(d, 1, 0, 3, digestOf(3)), api.OK)
	was[nameOf(1, 0, 1)] += bytesOf(3, 4)
	holdFiles(t, d, was)
	want(t, "Put", Put(d, 1, 0, 4, digestOf(4)), api.ErrLost)
	hold(t, d, 1, 0, digestsOf(4))
}

func TestPutJoinsWhatLiesBehind(t *testing.T) {
	// The digest that fills a gap makes those of the next file the level's.
	d := diskWith(t, 64, map[string]string{nameOf(1, 0, 0): bytesOf(0, 1), nameOf(1, 0, 1): bytesOf(2, 4), nameOf(1, 0, 2): bytesOf(4, 5)})
	hold(t, d, 1, 0, digestsOf(1))
	want(t, "Put", Put(d, 1, 0, 5, digestOf(5)), api.ErrRange)
	want(t, "Put", Put(d, 1, 0, 1, digestOf(1)), api.OK)
	hold(t, d, 1, 0, digestsOf(5))
	putUpTo(t, d, 1, 0, 8)
	hold(t, d, 1, 0, digestsOf(8))
}

func TestPutOfAnyDigest(t *testing.T) {
	d := newDisk(t, 64)
	l := []api.Digest{{}, {}, digestOf(1), digestOf(1), {}}
	for i, x := range l {
		want(t, "Put", Put(d, 1, 0, i, x), api.OK)
	}
	hold(t, d, 1, 0, l)
}

// P14.3

func TestRead(t *testing.T) {
	for height := 1; height <= 8; height++ {
		n := min(2<<height+1<<height/2+1, 600)
		d := diskOf(t, 64, height, 1, n)
		unchanged(t, d, func() { holdReads(t, d, height, 1, digestsOf(n)) })
	}
}

func TestReadLooksAtItsFileAlone(t *testing.T) {
	d := diskWith(t, 64, map[string]string{nameOf(2, 0, 5): bytesOf(0, 3) + "torn", nameOf(2, 0, 1000): bytesOf(1, 5) + bytesOf(7, 9), nameOf(2, 3, 5): ""})
	for width := 1; width <= 4; width++ {
		x := api.Tile{Height: 2, Index: 5, Width: width}
		b, e := Read(d, x)
		if width < 4 && (e != api.OK || string(b) != bytesOf(0, width)) || width == 4 && (e != api.ErrMissing || b != nil) {
			t.Error(x, b, int(e))
		}
		x.Index = 1000
		if b, e := Read(d, x); e != api.OK || string(b) != bytesOf(1, 1+width) {
			t.Error(x, b, int(e))
		}
		for _, x := range []api.Tile{tileOf(2, 0, 0, width), tileOf(2, 3, 5, width), tileOf(2, 1, 5, width), tileOf(3, 0, 5, width), tileOf(2, 0, 100, width), tileOf(2, 0, 5000, width)} {
			if b, e := Read(d, x); e != api.ErrMissing || b != nil {
				t.Error(x, b, int(e))
			}
		}
	}
	hold(t, d, 2, 0, nil)
}

func TestReadOfEachSize(t *testing.T) {
	whole := bytesOf(0, 9)
	for size := range len(whole) + 1 {
		d := diskWith(t, 64, map[string]string{nameOf(2, 1, 3): whole[:size], nameOf(2, 1, 3) + ".p/1": bytesOf(20, 21), nameOf(2, 1, 3) + ".p/3": bytesOf(20, 23)})
		for width := 1; width <= 4; width++ {
			b, e := Read(d, api.Tile{Height: 2, Level: 1, Index: 3, Width: width})
			if size < 32*width && (e != api.ErrMissing || b != nil) || size >= 32*width && (e != api.OK || string(b) != whole[:32*width]) {
				t.Fatal(size, width, len(b), int(e))
			}
		}
	}
}

func TestReadOfNoTile(t *testing.T) {
	d := diskOf(t, 64, 2, 0, 9)
	unchanged(t, d, func() {
		l := []api.Tile{{}, tileOf(2, 0, 0, 0), tileOf(2, 0, 0, 5), tileOf(2, 0, 0, -1), tileOf(2, 0, -1, 1), tileOf(2, -1, 0, 1), tileOf(0, 0, 0, 1), tileOf(9, 0, 0, 1), tileOf(1, 0, 0, 3), tileOf(2, 25, 0, 1), tileOf(1, 0, 1<<47, 1), tileOf(8, 5, 1, 1), tileOf(8, 6, 0, 2), tileOf(8, 6, 1, 1), tileOf(7, 6, 0, 65)}
		for _, p := range noPlaces {
			// At some of these a tile of one digest may be.
			l = append(l, api.Tile{Height: p.height, Level: p.level, Width: 1 << 8}, api.Tile{Height: p.height, Level: p.level, Width: 1, Index: 1 << 8})
		}
		for _, n := range farNumbers {
			l = append(l, api.Tile{Height: n, Width: 1}, api.Tile{Height: 2, Level: n, Width: 1}, api.Tile{Height: 2, Width: n}, api.Tile{Height: n, Level: n, Index: n, Width: n})
			if n < 0 || n >= 1<<46 {
				l = append(l, api.Tile{Height: 2, Index: n, Width: 1})
			}
		}
		for _, x := range l {
			if b, e := Read(d, x); b != nil || e != api.ErrArg {
				t.Errorf("Read %v: %d bytes, %d", x, len(b), int(e))
			}
		}
	})
}

func TestReadWhereTheFullTileMayNotBe(t *testing.T) {
	// Such a tile may be, and has no file: a name that looks like its is none.
	files := map[string]string{}
	for _, x := range []api.Tile{tileOf(1, 48, 0, 1), tileOf(2, 24, 0, 1), tileOf(3, 16, 0, 1), tileOf(4, 12, 0, 1), tileOf(5, 9, 0, 8), tileOf(6, 8, 0, 1), tileOf(7, 6, 0, 64), tileOf(8, 6, 0, 1)} {
		files[nameOf(x.Height, x.Level, 0)] = bytesOf(0, 1<<x.Height)
		for _, d := range []*disk.Disk{newDisk(t, 64), diskWith(t, 64, files)} {
			for width := 1; width <= x.Width; width++ {
				x.Width = width
				if b, e := Read(d, x); b != nil || e != api.ErrMissing {
					t.Errorf("Read %v: %d bytes, %d", x, len(b), int(e))
				}
			}
			if n, e := Count(d, x.Height, x.Level); n != 0 || e != api.ErrArg {
				t.Errorf("Count %v: %d, %d", x, n, int(e))
			}
		}
	}
}

func TestReadAtTheLastTile(t *testing.T) {
	d := diskWith(t, 64, map[string]string{nameOf(8, 0, 1<<40-1): bytesOf(0, 256), nameOf(1, 47, 0): bytesOf(0, 2)})
	if b, e := Read(d, api.Tile{Height: 8, Index: 1<<40 - 1, Width: 256}); e != api.OK || string(b) != bytesOf(0, 256) {
		t.Error(len(b), int(e))
	}
	if b, e := Read(d, api.Tile{Height: 1, Level: 47, Width: 2}); e != api.OK || string(b) != bytesOf(0, 2) {
		t.Error(len(b), int(e))
	}
}

func TestCountOfEachSize(t *testing.T) {
	// The file ahead of what is being put is longer than its digests, and one lies behind.
	for height := 1; height <= 2; height++ {
		whole := bytesOf(1<<height, 3<<height)
		for size := range len(whole) + 1 {
			files := map[string]string{nameOf(height, 2, 0): bytesOf(0, 1<<height), nameOf(height, 2, 1): whole[:size], nameOf(height, 2, 2): bytesOf(2<<height, 2<<height+1)}
			for _, more := range []string{"", "torn", bytesOf(50, 52)} {
				files[nameOf(height, 2, 0)] += more
				d := diskWith(t, 64, files)
				n := 1<<height + size/32
				if n >= 2<<height {
					n = 2<<height + 1
				}
				unchanged(t, d, func() { hold(t, d, height, 2, digestsOf(n)) })
			}
		}
	}
}

func TestLevelsAndHeightsAreApart(t *testing.T) {
	d := newDisk(t, 64)
	l := map[place]int{{1, 0}: 5, {1, 1}: 2, {1, 2}: 1, {2, 0}: 9, {2, 1}: 3, {3, 0}: 0, {8, 0}: 260, {8, 1}: 1, {1, 10}: 4, {1, 47}: 2}
	for p, n := range l {
		for i := range n {
			want(t, "Put", Put(d, p.height, p.level, i, digestOf(1000*p.height+100*p.level+i)), api.OK)
		}
	}
	for p, n := range l {
		got := allOf(t, d, p.height, p.level)
		if len(got) != n || count(t, d, p.height, p.level) != n {
			t.Error(p, len(got))
		}
		for i, x := range got {
			if x != digestOf(1000*p.height+100*p.level+i) {
				t.Error(p, i)
			}
		}
	}
	was := filesOf(t, d)
	want(t, "Trim", Trim(d, 2, 0, 4), api.OK)
	delete(was, nameOf(2, 0, 1))
	delete(was, nameOf(2, 0, 2))
	holdFiles(t, d, was)
}

func TestFirstFilesMayBeMissing(t *testing.T) {
	for _, files := range []map[string]string{
		{}, {nameOf(1, 0, 1): bytesOf(0, 2)}, {nameOf(1, 0, 0): ""}, {nameOf(1, 0, 0): bytesOf(0, 1)[:31], nameOf(1, 0, 1): bytesOf(0, 2)},
		{"tile/1/0/0": bytesOf(0, 2), "tile/1/0/00": bytesOf(0, 2), "tile/1/0/0000": bytesOf(0, 2), "tile/1/0/x000/000": bytesOf(0, 2), "tile/1/0/000.p/1": bytesOf(0, 1), "tile/01/0/000": bytesOf(0, 2)},
	} {
		hold(t, diskWith(t, 64, files), 1, 0, nil)
	}
}

func TestManyDigests(t *testing.T) {
	// From the tile 1000 on, the names have a group more.
	for _, p := range []place{{1, 3}, {2, 0}} {
		n := 1002<<p.height + 1
		files := map[string]string{}
		for i := range n {
			files[nameOf(p.height, p.level, i>>p.height)] += bytesOf(i%256, i%256+1)
		}
		d := diskWith(t, 4096, files)
		l := levelOf(files, p.height, p.level)
		if len(l) != n {
			t.Fatal(len(l))
		}
		hold(t, d, p.height, p.level, l)
		want(t, "Put", Put(d, p.height, p.level, n, digestOf(n)), api.OK)
		hold(t, d, p.height, p.level, append(l, digestOf(n)))
		want(t, "Remove", d.Remove(nameOf(p.height, p.level, 1000)), api.OK)
		hold(t, d, p.height, p.level, l[:1000<<p.height])
	}
}

func TestLooksOfNoPlace(t *testing.T) {
	d := diskOf(t, 64, 1, 0, 3)
	lay(t, d, map[string]string{nameOf(9, 0, 0): bytesOf(0, 2), nameOf(0, 0, 0): bytesOf(0, 1)})
	unchanged(t, d, func() {
		for _, p := range noPlaces {
			if n, e := Count(d, p.height, p.level); n != 0 || e != api.ErrArg {
				t.Errorf("Count %v: %d, %d", p, n, int(e))
			}
			if l := allOf(t, d, p.height, p.level); l != nil {
				t.Errorf("All %v: %v", p, l)
			}
		}
	})
}

// P14.4

// holdTrim fails unless a Trim writes what the chapter says, in its order, and leaves the first n digests.
func holdTrim(t *testing.T, d *disk.Disk, height, level, n int) {
	t.Helper()
	files, ahead := filesOf(t, d), d.Writes()
	l := levelOf(files, height, level)[:n]
	var gone []int
	for name := range files {
		x, e := tile.Parse(name)
		if e == api.OK && x.Height == height && x.Level == level && x.Width == 1<<height && x.Index<<height >= n {
			gone = append(gone, x.Index)
		}
	}
	slices.Sort(gone)
	slices.Reverse(gone)
	var raws []api.Raw
	for _, index := range gone {
		raws = append(raws, removed(nameOf(height, level, index)))
		delete(files, nameOf(height, level, index))
	}
	name, keep := nameOf(height, level, n>>height), n%(1<<height)*32
	if b, there := files[name]; there && len(b) > keep {
		raws = append(raws, cut(name, keep))
		files[name] = b[:keep]
	}
	want(t, fmt.Sprint("Trim to ", n), Trim(d, height, level, n), api.OK)
	holdRaws(t, d, ahead, raws...)
	holdFiles(t, d, files)
	hold(t, d, height, level, l)
	holdReads(t, d, height, level, l)
}

func TestTrimToEachNumber(t *testing.T) {
	for height := 1; height <= 3; height++ {
		for n := range 3<<height + 2 {
			for to := range n + 1 {
				for _, torn := range []int{0, 1, 16, 31} {
					d := diskOf(t, 64, height, 1, n)
					name := nameOf(height, 1, n>>height)
					if torn > 0 && n%(1<<height) == 0 {
						want(t, "Create", d.Create(name), api.OK)
					}
					if torn > 0 {
						want(t, "Append", d.Append(name, some(1, torn)), api.OK)
					}
					holdTrim(t, d, height, 1, to)
					putUpTo(t, d, height, 1, n+2)
					hold(t, d, height, 1, digestsOf(n+2))
				}
			}
		}
	}
}

func TestTrimOfGreatTiles(t *testing.T) {
	for _, height := range []int{4, 7, 8} {
		n := 2<<height + 5
		d := diskOf(t, 4096, height, 0, n)
		for _, to := range []int{n, n - 1, 2<<height + 1, 2 << height, 2<<height - 1, 1<<height + 1, 1 << height, 1<<height - 1, 1, 0, 0} {
			holdTrim(t, d, height, 0, to)
		}
		holdFiles(t, d, map[string]string{})
	}
}

func TestTrimOutOfRange(t *testing.T) {
	for n := range 6 {
		d := diskOf(t, 64, 1, 0, n)
		lay(t, d, map[string]string{nameOf(1, 0, 3): bytesOf(6, 8), nameOf(1, 0, 7): "torn"})
		unchanged(t, d, func() {
			for _, to := range append([]int{n + 1, n + 2, 8, 16}, farNumbers...) {
				want(t, fmt.Sprint("Trim to ", to), Trim(d, 1, 0, to), api.ErrRange)
			}
		})
	}
}

func TestTrimOfNoPlace(t *testing.T) {
	d := diskOf(t, 64, 1, 0, 3)
	lay(t, d, map[string]string{nameOf(9, 0, 0): bytesOf(0, 2), nameOf(8, 6, 0): bytesOf(0, 1), nameOf(1, 48, 0): bytesOf(0, 1)})
	unchanged(t, d, func() {
		for _, p := range noPlaces {
			for _, n := range append([]int{0, 1, 3}, farNumbers...) {
				want(t, fmt.Sprint("Trim ", p, n), Trim(d, p.height, p.level, n), api.ErrArg)
			}
		}
	})
}

func TestTrimRemovesTheGreatestFirst(t *testing.T) {
	// By their bytes the names stand in another order than their indices.
	l := []int{0, 1, 2, 8, 9, 10, 11, 99, 100, 101, 998, 999, 1000, 1001, 1999, 2000, 9999, 10000, 99999, 999999, 1000000, 1000999, 1001000, 999999999, 1000000000, 1<<46 - 2, 1<<46 - 1}
	files := map[string]string{"other": "x"}
	for _, index := range l {
		files[nameOf(2, 0, index)] = bytesOf(0, 4)
	}
	for to := range 13 {
		d := diskWith(t, 4096, files)
		holdTrim(t, d, 2, 0, to)
	}
	d := diskWith(t, 4096, files)
	n := d.Writes()
	var raws []api.Raw
	for _, index := range slices.Backward(l[3:]) {
		raws = append(raws, removed(nameOf(2, 0, index)))
	}
	want(t, "Trim", Trim(d, 2, 0, 12), api.OK)
	holdRaws(t, d, n, raws...)
}

func TestTrimTakesWhatLiesBehindAGap(t *testing.T) {
	for to := range 4 {
		d := diskWith(t, 64, map[string]string{
			nameOf(1, 0, 0): bytesOf(0, 2), nameOf(1, 0, 1): bytesOf(2, 3), nameOf(1, 0, 2): "", nameOf(1, 0, 3): bytesOf(6, 8), nameOf(1, 0, 5): "torn", nameOf(1, 0, 1<<47-1): bytesOf(0, 9),
		})
		holdTrim(t, d, 1, 0, to)
	}
}

func TestTrimLeavesStrangers(t *testing.T) {
	files := map[string]string{}
	for _, name := range []string{
		"tile", "tile/", "tile/1", "tile/1/0", "tile/1/0/", "tile/1/0/0", "tile/1/0/00", "tile/1/0/0000", "tile/1/0/x000/000", "tile/1/0/x000/001", "tile/1/0/00x", "tile/1/0/0001",
		"tile/1/0/1000", "tile/1/0/x001000", "tile/1/0/001/000", "tile/1/0/x001/x000", "tile/1/0/x001/0000", "tile/1/0/X001/000", "tile/1/0/+01", "tile/1/0/-01", "tile/1/0/ 01", "tile/1/0/001 ", "tile/1/0/001\n", "tile/1/0/001/",
		"tile/1/0/000.p/1", "tile/1/0/005.p/1", "tile/1/0/005.p/2", "tile/1/0/005.p/0", "tile/1/0/005.p/", "tile/1/0/005.p", "tile/01/0/005", "tile/1/00/005", "tile/+1/0/005", "tile/1/-0/005", "tile//0/005",
		"tile/1/1/000", "tile/1/1/005", "tile/1/10/005", "tile/11/0/005", "tile/10/0/005", "tile/2/0/000", "tile/2/0/005", "tile/8/0/005", "tile/0/0/005", "tile/9/0/005", "tile/1/48/000",
		"Tile/1/0/005", "/tile/1/0/005", "xtile/1/0/005", "tiles/1/0/005", "tile/1/0/x140/x737/x488/x355/328", "tile/1/0/x999/x999/x999/x999/x999/999", "tile/1/0/x018/x446/x744/x073/x709/x551/617", "tile/1/0/\u0660\u0660\u0665",
		"journal-000001", "leaf/1/000000", "checkpoint", strings.Repeat("9", api.MaxName), "tile/1/0/" + strings.Repeat("x999/", 23) + "999", "\x00", "\xff",
	} {
		files[name] = bytesOf(0, 2) + "torn"
	}
	for to := range 4 {
		all := maps.Clone(files)
		all[nameOf(1, 0, 0)], all[nameOf(1, 0, 1)], all[nameOf(1, 0, 4)] = bytesOf(0, 2), bytesOf(2, 3), bytesOf(0, 2)
		d := diskWith(t, 4096, all)
		n := d.Writes()
		want(t, "Trim", Trim(d, 1, 0, to), api.OK)
		if d.Writes() == n {
			t.Error(to, "nothing was done")
		}
		left := filesOf(t, d)
		for index := range 3 {
			delete(left, nameOf(1, 0, index))
		}
		if !maps.Equal(left, files) {
			t.Error(to, "a stranger was touched")
		}
		hold(t, d, 1, 0, digestsOf(to))
	}
}

func TestTrimLeavesWhatLiesBehindAFullFilesDigests(t *testing.T) {
	files := map[string]string{nameOf(1, 0, 0): bytesOf(0, 2) + "more", nameOf(1, 0, 1): bytesOf(2, 4) + bytesOf(4, 6)}
	for to := range 5 {
		holdTrim(t, diskWith(t, 64, files), 1, 0, to)
	}
	d := diskWith(t, 64, files)
	unchanged(t, d, func() { want(t, "Trim", Trim(d, 1, 0, 4), api.OK) })
}

// P14.5

func TestNothingFullIsTouched(t *testing.T) {
	for height := 1; height <= 4; height++ {
		d := newDisk(t, 7)
		// The first file has more than its digests.
		want(t, "Create", d.Create(nameOf(height, 0, 0)), api.OK)
		want(t, "Append", d.Append(nameOf(height, 0, 0), []byte(bytesOf(0, 1<<height)+"more")), api.OK)
		for i := 1 << height; i < 4<<height+1; i++ {
			was, n := filesOf(t, d), d.Writes()
			want(t, "Put", Put(d, height, 0, i, digestOf(i)), api.OK)
			for _, raw := range rawsOf(t, d, n) {
				if raw.Kind != api.RawCreate && raw.Kind != api.RawAppend || len(was[raw.Name]) >= 32<<height {
					t.Fatal(height, i, raw)
				}
			}
			is := filesOf(t, d)
			for name, b := range was {
				if !strings.HasPrefix(is[name], b) {
					t.Fatal(height, i, name, "was changed")
				}
			}
		}
		hold(t, d, height, 0, digestsOf(4<<height+1))
	}
}

// P14.6

func TestPowerInAPut(t *testing.T) {
	for _, height := range []int{1, 2, 3} {
		for _, sector := range []int{1, 5, 16, 31, 32, 33, 64, 4096} {
			d := newDisk(t, sector)
			for i := range 2<<height + 2 {
				n := d.Writes()
				want(t, "Put", Put(d, height, 1, i, digestOf(i)), api.OK)
				for k := n; k <= d.Writes(); k++ {
					holdCut(t, after(t, d, k), d, height, i, k == d.Writes())
				}
			}
		}
	}
}

// holdCut fails unless a disk that was cut in the midst of a Put of the digest i, or behind it, can be made what it had become.
func holdCut(t *testing.T, o, whole *disk.Disk, height, i int, done bool) {
	t.Helper()
	has := i
	if done {
		has++
	}
	hold(t, o, height, 1, digestsOf(has))
	file := nameOf(height, 1, i>>height)
	size, _ := o.Size(file)
	if !done && size%32 != 0 {
		want(t, "Put", Put(o, height, 1, i, digestOf(i)), api.ErrLost)
	}
	holdTrim(t, o, height, 1, has)
	if size, _ := o.Size(file); size%32 != 0 {
		t.Fatal("something is torn")
	}
	putUpTo(t, o, height, 1, i+1)
	if !o.Same(whole) {
		t.Fatal("other files than without the loss of power")
	}
}

func TestPowerInATrim(t *testing.T) {
	for height := 1; height <= 2; height++ {
		for n := range 4<<height + 2 {
			for to := range n + 1 {
				d := diskOf(t, 16, height, 0, n)
				ahead := d.Writes()
				want(t, "Trim", Trim(d, height, 0, to), api.OK)
				for k := ahead; k <= d.Writes(); k++ {
					o := after(t, d, k)
					has := count(t, o, height, 0)
					if has < to || has > n {
						t.Fatal(n, to, has)
					}
					hold(t, o, height, 0, digestsOf(has))
					want(t, "Trim", Trim(o, height, 0, to), api.OK)
					if !o.Same(d) {
						t.Fatal("other files than without the loss of power")
					}
				}
			}
		}
	}
}

// chance tells numbers that look like chance and are the same each time.
type chance uint64

func (c *chance) below(n int) int {
	*c = *c*6364136223846793005 + 1442695040888963407
	return int(uint64(*c) >> 33 % uint64(n))
}

// spoil does something to a disk that the package would not do.
func spoil(t *testing.T, c *chance, d *disk.Disk) *disk.Disk {
	t.Helper()
	name := nameOf(1+c.below(2), c.below(2), c.below(5))
	size, _ := d.Size(name)
	switch c.below(5) {
	case 0:
		d.Create(name)
	case 1:
		d.Append(name, some(c.below(9), c.below(70)))
	case 2:
		d.Cut(name, c.below(size+1))
	case 3:
		d.Remove(name)
	case 4:
		return after(t, d, d.Writes()-c.below(min(d.Writes()+1, 6)))
	}
	return d
}

// step does one call, and fails unless it answers and writes as the chapter's words say.
func step(t *testing.T, c *chance, d *disk.Disk) {
	t.Helper()
	height, level := 1+c.below(2), c.below(2)
	files := filesOf(t, d)
	l := levelOf(files, height, level)
	if c.below(4) == 0 {
		to := c.below(len(l)+4) - 1
		if to < 0 || to > len(l) {
			unchanged(t, d, func() { want(t, "Trim", Trim(d, height, level, to), api.ErrRange) })
			return
		}
		holdTrim(t, d, height, level, to)
		return
	}
	i, x, ahead := len(l), digestOf(c.below(1000)), d.Writes()
	if c.below(8) == 0 {
		i = c.below(12)
	}
	name := nameOf(height, level, i>>height)
	b, there := files[name]
	if i != len(l) || len(b)%32 != 0 {
		e := api.ErrRange
		if i == len(l) {
			e = api.ErrLost
		}
		unchanged(t, d, func() { want(t, "Put", Put(d, height, level, i, x), e) })
		return
	}
	raws := appended(name, len(b), x[:], d.Sector())
	if !there {
		raws = append([]api.Raw{created(name)}, raws...)
	}
	want(t, "Put", Put(d, height, level, i, x), api.OK)
	holdRaws(t, d, ahead, raws...)
	files[name] += string(x[:])
	holdFiles(t, d, files)
}

func TestLives(t *testing.T) {
	for life := range 60 {
		c := chance(life)
		d := newDisk(t, 1+c.below(80))
		for range 80 {
			step(t, &c, d)
			if c.below(6) == 0 {
				d = spoil(t, &c, d)
			}
			files := filesOf(t, d)
			for height := 1; height <= 2; height++ {
				for level := range 2 {
					hold(t, d, height, level, levelOf(files, height, level))
				}
			}
		}
	}
}

// P14.7

func TestTrimKeepsTheFirstOnes(t *testing.T) {
	for height := 1; height <= 4; height++ {
		n := 3<<height + 3
		for to := n; to >= 0; to-- {
			d := diskOf(t, 64, height, 0, n)
			want(t, "Trim", Trim(d, height, 0, to), api.OK)
			hold(t, d, height, 0, digestsOf(to))
			holdReads(t, d, height, 0, digestsOf(to))
			for i := to; i < n; i++ {
				want(t, "Put", Put(d, height, 0, i, digestOf(1000+i)), api.OK)
			}
			l := digestsOf(to)
			for i := to; i < n; i++ {
				l = append(l, digestOf(1000+i))
			}
			hold(t, d, height, 0, l)
		}
	}
}

// Rule 1 of DOC.md

func TestNoDisk(t *testing.T) {
	for _, d := range []*disk.Disk{nil, {}, new(disk.Disk)} {
		for _, p := range append([]place{{1, 0}, {8, 5}}, noPlaces...) {
			for _, n := range append([]int{0, 1}, farNumbers...) {
				want(t, "Put", Put(d, p.height, p.level, n, digestOf(0)), api.ErrNil)
				want(t, "Trim", Trim(d, p.height, p.level, n), api.ErrNil)
				if b, e := Read(d, api.Tile{Height: p.height, Level: p.level, Index: n, Width: 1}); b != nil || e != api.ErrNil {
					t.Error(b, int(e))
				}
				if b, e := Read(d, api.Tile{Height: p.height, Level: p.level, Width: n}); b != nil || e != api.ErrNil {
					t.Error(b, int(e))
				}
			}
			if n, e := Count(d, p.height, p.level); n != 0 || e != api.ErrNil {
				t.Error(n, int(e))
			}
			if l := allOf(t, d, p.height, p.level); l != nil {
				t.Error(l)
			}
		}
		if d != nil && !reflect.DeepEqual(*d, disk.Disk{}) {
			t.Error("something was done")
		}
	}
}

// Rule 4 of DOC.md

func TestWhatIsReadIsNewMemory(t *testing.T) {
	d := diskOf(t, 64, 2, 0, 7)
	was, raws := filesOf(t, d), rawsOf(t, d, 0)
	for width := 1; width <= 4; width++ {
		x := api.Tile{Height: 2, Width: width}
		b, _ := Read(d, x)
		o, _ := Read(d, x)
		for _, c := range b[len(b):cap(b)] {
			if c != 0 {
				t.Error(width, "hands out what lies behind")
			}
		}
		b = b[:cap(b)]
		for i := range b {
			b[i] ^= 255
		}
		if string(o) != bytesOf(0, width) {
			t.Error(width, "two answers share memory")
		}
	}
	holdFiles(t, d, was)
	holdRaws(t, d, 0, raws...)
	hold(t, d, 2, 0, digestsOf(7))
}

// Rule 8 of DOC.md

func TestAllMayBeLeftAnywhere(t *testing.T) {
	d := diskOf(t, 64, 1, 0, 7)
	all := All(d, 1, 0)
	for stop := range 7 {
		var got []api.Digest
		all(func(i int, x api.Digest) bool {
			got = append(got, x)
			return i < stop
		})
		if !slices.Equal(got, digestsOf(stop+1)) {
			t.Error(stop, len(got))
		}
	}
	n := 0
	for range all {
		for i, x := range all {
			if x != digestOf(i) {
				t.Error(i)
			}
			n++
		}
	}
	if n != 49 {
		t.Error(n)
	}
}

func TestAllTellsWhatIsThereAsTheRangeBegins(t *testing.T) {
	d := newDisk(t, 64)
	all := All(d, 1, 0)
	for range all {
		t.Error("nothing is there")
	}
	putUpTo(t, d, 1, 0, 5)
	for _, meanwhile := range []func(i int){
		func(i int) { putUpTo(t, d, 1, 0, 6+i) },
		func(i int) { want(t, "Trim", Trim(d, 1, 0, 4-i), api.OK) },
		func(int) { d.Remove(nameOf(1, 0, 1)) },
		func(int) { d.Rename(nameOf(1, 0, 0), nameOf(1, 0, 1)) },
	} {
		want(t, "Trim", Trim(d, 1, 0, 0), api.OK)
		putUpTo(t, d, 1, 0, 5)
		var got []api.Digest
		for i, x := range all {
			if i != len(got) {
				t.Error(i, len(got))
			}
			got = append(got, x)
			meanwhile(i)
		}
		if !slices.Equal(got, digestsOf(5)) {
			t.Error(len(got))
		}
		if got := allOf(t, d, 1, 0); !slices.Equal(got, levelOf(filesOf(t, d), 1, 0)) {
			t.Error("the next range tells what was there ahead")
		}
	}
}
