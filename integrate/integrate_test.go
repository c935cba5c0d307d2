package integrate

import (
	"bytes"
	"crypto/sha256"
	"encoding/binary"
	"fmt"
	"maps"
	"math"
	"math/big"
	"reflect"
	"slices"
	"strconv"
	"strings"
	"testing"

	"coppice/api"
	"coppice/bundle"
	"coppice/digests"
	"coppice/disk"
	"coppice/shelf"
	"coppice/tree"
)

// want fails unless an error is the one that is asked for.
func want(t *testing.T, what string, got, e api.Errno) {
	t.Helper()
	if got != e {
		t.Fatalf("%s: %d, not %d", what, int(got), int(e))
	}
}

// leafOf tells a leaf, another one for each number; their lengths differ, one of them is empty.
func leafOf(n int) []byte {
	if n == 3 {
		return nil
	}
	return []byte(strings.Repeat("x", n%5) + strconv.Itoa(n))
}

// leavesOf tells those of the numbers from one up to (without) another.
func leavesOf(from, to int) [][]byte {
	var l [][]byte
	for n := from; n < to; n++ {
		l = append(l, leafOf(n))
	}
	return l
}

func texts(l ...string) [][]byte {
	var out [][]byte
	for _, s := range l {
		out = append(out, []byte(s))
	}
	return out
}

// leafDigest tells a leaf's digest by the words of DOC.md.
func leafDigest(leaf []byte) api.Digest {
	return sha256.Sum256(append([]byte{0}, leaf...))
}

// rootOf tells the digest of a perfect subtree by the words of DOC.md.
func rootOf(l []api.Digest) api.Digest {
	if len(l) == 1 {
		return l[0]
	}
	one, two := rootOf(l[:len(l)/2]), rootOf(l[len(l)/2:])
	return sha256.Sum256(slices.Concat([]byte{1}, one[:], two[:]))
}

// levelsOf tells the digests of all levels over leaves that have any.
func levelsOf(height int, leaves [][]byte) [][]api.Digest {
	var level []api.Digest
	for _, leaf := range leaves {
		level = append(level, leafDigest(leaf))
	}
	var out [][]api.Digest
	for len(level) > 0 {
		out = append(out, level)
		var next []api.Digest
		for width := 1 << height; len(level) >= width; level = level[width:] {
			next = append(next, rootOf(level[:width]))
		}
		level = next
	}
	return out
}

func tileName(height, level, index int) string {
	return fmt.Sprintf("tile/%d/%d/%s", height, level, tilePath(index))
}

// tilePath tells an index's path by chapter 10's words.
func tilePath(index int) string {
	if index < 1000 {
		return fmt.Sprintf("%03d", index)
	}
	return fmt.Sprintf("x%03d/%03d", index/1000, index%1000)
}

func leafName(height, number int) string { return fmt.Sprintf("leaf/%d/%06d", height, number) }

// filesOf tells the files that leaves make, by the words of the chapters 14, 15 and 17.
func filesOf(height int, leaves [][]byte) map[string]string {
	files := map[string]string{}
	for i, leaf := range leaves {
		b := append(binary.BigEndian.AppendUint16(nil, uint16(len(leaf))), leaf...)
		files[leafName(height, i>>height)] += string(b)
	}
	for level, l := range levelsOf(height, leaves) {
		for i, x := range l {
			files[tileName(height, level, i>>height)] += string(x[:])
		}
	}
	return files
}

// filesOn tells what lies on a disk.
func filesOn(t *testing.T, d *disk.Disk) map[string]string {
	t.Helper()
	files := map[string]string{}
	for name := range d.List() {
		size, e := d.Size(name)
		want(t, "Size "+name, e, api.OK)
		b, e := d.Read(name, 0, size)
		want(t, "Read "+name, e, api.OK)
		files[name] = string(b)
	}
	return files
}

// lies fails unless just these files lie on a disk.
func lies(t *testing.T, what string, d *disk.Disk, files map[string]string) {
	t.Helper()
	got := filesOn(t, d)
	for name, b := range files {
		if there, ok := got[name]; !ok || there != b {
			t.Fatalf("%s: %s has %d bytes (there: %v), not the %d asked for", what, name, len(there), ok, len(b))
		}
	}
	if len(got) != len(files) {
		t.Fatalf("%s: %d files, not %d", what, len(got), len(files))
	}
}

func newDisk(t *testing.T, sector int) *disk.Disk {
	t.Helper()
	d, e := disk.New(sector)
	want(t, "disk.New", e, api.OK)
	return d
}

// diskWith tells a disk with files.
func diskWith(t *testing.T, sector int, files map[string]string) *disk.Disk {
	t.Helper()
	d := newDisk(t, sector)
	for _, name := range slices.Sorted(maps.Keys(files)) {
		want(t, "Create "+name, d.Create(name), api.OK)
		want(t, "Append "+name, d.Append(name, []byte(files[name])), api.OK)
	}
	return d
}

// diskOf tells a disk on which the first n leaves lie.
func diskOf(t *testing.T, sector, height, n int) *disk.Disk {
	t.Helper()
	return diskWith(t, sector, filesOf(height, leavesOf(0, n)))
}

func cut(t *testing.T, d *disk.Disk, name string, size int) {
	t.Helper()
	want(t, "Cut "+name, d.Cut(name, size), api.OK)
}

func add(t *testing.T, d *disk.Disk, name, b string) {
	t.Helper()
	if _, e := d.Size(name); e == api.ErrMissing {
		want(t, "Create "+name, d.Create(name), api.OK)
	}
	want(t, "Append "+name, d.Append(name, []byte(b)), api.OK)
}

// stays fails if a call that answers an error does not answer the one asked for, or writes anything.
func stays(t *testing.T, what string, d *disk.Disk, e api.Errno, call func() api.Errno) {
	t.Helper()
	writes := d.Writes()
	want(t, what, call(), e)
	if d.Writes() != writes {
		t.Fatal(what, "wrote")
	}
}

// writesOf tells a disk's raw writes from one on.
func writesOf(t *testing.T, d *disk.Disk, from int) []api.Raw {
	t.Helper()
	var l []api.Raw
	for i := from; i < d.Writes(); i++ {
		raw, e := d.Raw(i)
		want(t, "Raw", e, api.OK)
		l = append(l, raw)
	}
	return l
}

func heights() []int { return []int{1, 2, 3, 4, 5, 6, 7, 8} }

func noHeights() []int {
	return []int{math.MinInt, -64, -1, 0, 9, 10, 16, 63, 64, 65, 1 << 32, 1<<32 + 1, math.MaxInt}
}

func noSizes() []int {
	return []int{math.MinInt, -api.MaxLeaves, -1, api.MaxLeaves + 1, 1 << 32, math.MaxInt - 1, math.MaxInt}
}

// greatest tells up to which number of leaves all are gone through, so that at small heights there are levels upon levels.
func greatest(height int) int { return []int{0, 34, 70, 70, 70, 70, 131, 260, 515}[height] }

// some tells sizes up to the greatest, those about full tiles among them.
func some(height int) []int {
	out := []int{0, 1, 2, 3, greatest(height)}
	for width := 1 << height; width <= greatest(height); width *= 1 << height {
		out = append(out, width-1, width, width+1, 2*width, 2*width+1)
	}
	slices.Sort(out)
	out = slices.DeleteFunc(out, func(n int) bool { return n > greatest(height) })
	return slices.Compact(out)
}

// P17.1

func indexOf(t *testing.T, l ...[]byte) *digests.Index {
	t.Helper()
	x := digests.New()
	for i, leaf := range l {
		// The places are none of the list's, since Fresh asks whether a digest is there alone.
		want(t, "Add", x.Add(leafDigest(leaf), 1000*i), api.OK)
	}
	return x
}

func fresh(t *testing.T, known *digests.Index, pending [][]byte) []int {
	t.Helper()
	l, e := Fresh(known, pending)
	want(t, "Fresh", e, api.OK)
	return l
}

func TestFreshExamples(t *testing.T) {
	for _, x := range []struct {
		known, pending [][]byte
		want           []int
	}{
		{nil, texts("a", "b", "a"), []int{0, 1}},
		{nil, nil, nil},
		{texts("a"), nil, nil},
		{nil, texts("a"), []int{0}},
		{texts("a"), texts("a"), nil},
		{texts("a"), texts("a", "b"), []int{1}},
		{texts("b"), texts("a", "b"), []int{0}},
		{texts("a", "b", "c"), texts("c", "b", "a"), nil},
		{texts("a"), texts("b", "a", "b", "c", "c", "b", "d"), []int{0, 3, 6}},
		{nil, texts("a", "a", "a"), []int{0}},
		{nil, [][]byte{nil, {}, {0}, {0, 0}, {1}}, []int{0, 2, 3, 4}},
		{texts(""), [][]byte{nil, {}, {0}}, []int{2}},
	} {
		if got := fresh(t, indexOf(t, x.known...), x.pending); !slices.Equal(got, x.want) {
			t.Errorf("%q known, %q pending: %v, not %v", x.known, x.pending, got, x.want)
		}
	}
}

func TestFreshOfManyLeaves(t *testing.T) {
	state := uint32(7)
	for round := range 300 {
		known := leavesOf(0, round%23)
		var pending [][]byte
		var expected []int
		seen := map[string]int{}
		for _, leaf := range known {
			seen[string(leaf)]++
		}
		for i := range round {
			state = state*1664525 + 1013904223
			leaf := leafOf(int(state>>16) % (round + 1))
			if seen[string(leaf)] == 0 {
				expected = append(expected, i)
			}
			seen[string(leaf)]++
			pending = append(pending, leaf)
		}
		if got := fresh(t, indexOf(t, known...), pending); !slices.Equal(got, expected) {
			t.Fatal(round, got, expected)
		}
	}
}

// A leaf is known by its digest as a leaf, not by other digests of its bytes.
func TestFreshLooksForDigestsOfLeaves(t *testing.T) {
	x := digests.New()
	a, b := leafDigest([]byte("a")), leafDigest([]byte("b"))
	node := slices.Concat(a[:], b[:])
	want(t, "Add", x.Add(sha256.Sum256([]byte("a")), 0), api.OK)
	want(t, "Add", x.Add(rootOf([]api.Digest{a, b}), 1), api.OK)
	if got := fresh(t, x, [][]byte{[]byte("a"), node, a[:]}); !slices.Equal(got, []int{0, 1, 2}) {
		t.Error(got)
	}
}

func TestFreshOfGreatLeaves(t *testing.T) {
	great := bytes.Repeat([]byte{7}, api.MaxLeaf+1)
	if got := fresh(t, digests.New(), [][]byte{great, great[1:], great, great[1:]}); !slices.Equal(got, []int{0, 1}) {
		t.Error(got)
	}
}

// What the index has stays as it is, so that a second Fresh tells the same.
func TestFreshKeepsTheIndex(t *testing.T) {
	for n := range 20 {
		known := indexOf(t, leavesOf(0, n)...)
		before, runs := maps.Collect(known.All()), known.Runs()
		pending := leavesOf(n/2, n+9)
		first := fresh(t, known, pending)
		if !maps.Equal(before, maps.Collect(known.All())) || !slices.Equal(runs, known.Runs()) {
			t.Fatal("the index changed", n)
		}
		expected := slices.Clone(first)
		for i := range first[:cap(first)] {
			first[:cap(first)][i] = -1
		}
		if second := fresh(t, known, pending); !slices.Equal(second, expected) {
			t.Fatal(n, second, expected)
		}
	}
}

func TestFreshWithoutIndex(t *testing.T) {
	for _, x := range []*digests.Index{nil, {}} {
		for _, pending := range [][][]byte{nil, {}, texts("a", "b"), {nil}} {
			if l, e := Fresh(x, pending); e != api.ErrNil || len(l) > 0 {
				t.Error(l, int(e))
			}
		}
	}
}

// P17.2

func TestAboveExamples(t *testing.T) {
	for _, x := range []struct{ height, level, n, want int }{
		{1, 1, 3, 1}, {8, 1, 255, 0}, {8, 1, 256, 1}, {8, 1, 511, 1}, {8, 1, 512, 2}, {1, 0, 3, 3}, {8, 0, 0, 0}, {1, 1, 1, 0}, {1, 1, 2, 1},
		{1, 20, api.MaxLeaves, 1}, {1, 20, api.MaxLeaves - 1, 0}, {1, 21, api.MaxLeaves, 0}, {1, 19, api.MaxLeaves, 2}, {8, 2, api.MaxLeaves, 16}, {8, 3, api.MaxLeaves, 0},
		{5, 4, api.MaxLeaves, 1}, {5, 4, api.MaxLeaves - 1, 0}, {3, 0, api.MaxLeaves, api.MaxLeaves}, {2, 2, 31, 1}, {2, 2, 32, 2},
		{4, math.MaxInt, api.MaxLeaves, 0}, {8, 1 << 61, 5, 0}, {4, 1 << 62, 5, 0}, {1, 64, 5, 0}, {8, 8, api.MaxLeaves, 0}, {2, math.MaxInt/2 + 1, 1, 0},
	} {
		if got, e := Above(x.height, x.level, x.n); got != x.want || e != api.OK {
			t.Error(x, got, int(e))
		}
	}
}

func someLevels() []int {
	out := []int{math.MinInt, math.MinInt / 8, -64, -2, -1, 63, 64, 65, 128, 1 << 32, 1<<60 + 1, 1<<61 - 1, 1 << 61, 1 << 62, math.MaxInt / 8, math.MaxInt/8 + 1, math.MaxInt - 1, math.MaxInt}
	for level := range 50 {
		out = append(out, level)
	}
	return out
}

func TestAboveOfMany(t *testing.T) {
	sizes := append(noSizes(), 0, 3, 5, 100, 12345, 777777, 0x55555, 0xaaaaa)
	for level := range 21 {
		sizes = append(sizes, 1<<level-1, 1<<level, 1<<level+1)
	}
	for _, height := range append(heights(), noHeights()...) {
		for _, level := range someLevels() {
			for _, n := range sizes {
				expected, e := above(height, level, n)
				if got, is := Above(height, level, n); got != expected || is != e {
					t.Fatal(height, level, n, got, int(is))
				}
			}
		}
	}
}

// above tells by the chapter's words what Above tells, reckoned by whole numbers without a bound.
func above(height, level, n int) (int, api.Errno) {
	if height < 1 || height > 8 || level < 0 || n < 0 || n > 1<<20 {
		return 0, api.ErrArg
	}
	power := new(big.Int).Mul(big.NewInt(int64(height)), big.NewInt(int64(level)))
	if power.Cmp(big.NewInt(1000)) > 0 {
		return 0, api.OK
	}
	v := new(big.Int).Lsh(big.NewInt(1), uint(power.Int64()))
	return int(v.Div(big.NewInt(int64(n)), v).Int64()), api.OK
}

// P17.3

func TestBatchExample(t *testing.T) {
	d := newDisk(t, 64)
	stays(t, "Batch at 1", d, api.ErrRange, func() api.Errno { return Batch(d, 1, 1, texts("a", "b", "c")) })
	want(t, "Batch", Batch(d, 1, 0, texts("a", "b", "c")), api.OK)
	a, b, c := leafDigest([]byte("a")), leafDigest([]byte("b")), leafDigest([]byte("c"))
	node := rootOf([]api.Digest{a, b})
	lies(t, "Batch", d, map[string]string{
		"leaf/1/000000": "\x00\x01a\x00\x01b", "leaf/1/000001": "\x00\x01c",
		"tile/1/0/000": string(a[:]) + string(b[:]), "tile/1/0/001": string(c[:]), "tile/1/1/000": string(node[:]),
	})
}

func TestBatchMakesTheFiles(t *testing.T) {
	for _, height := range heights() {
		for _, n := range some(height) {
			d := newDisk(t, 512)
			want(t, "Batch", Batch(d, height, 0, leavesOf(0, n)), api.OK)
			lies(t, fmt.Sprint("height ", height, " leaves ", n), d, filesOf(height, leavesOf(0, n)))
		}
	}
}

// inOrder does by the lower layers' calls what the chapter says that a batch does, in that order.
func inOrder(t *testing.T, d *disk.Disk, height, size int, leaves [][]byte) {
	t.Helper()
	for i, leaf := range leaves {
		want(t, "bundle.Put", bundle.Put(d, height, size+i, leaf), api.OK)
	}
	for level, l := range levelsOf(height, leavesOf(0, size+len(leaves))) {
		has, e := shelf.Count(d, height, level)
		want(t, "shelf.Count", e, api.OK)
		for i := has; i < len(l); i++ {
			want(t, "shelf.Put", shelf.Put(d, height, level, i, l[i]), api.OK)
		}
	}
}

func TestBatchWritesInOrder(t *testing.T) {
	for _, height := range []int{1, 2, 3} {
		for size := 0; size <= 18; size++ {
			for n := 0; n <= 18; n++ {
				leaves := leavesOf(size, size+n)
				d, o := diskOf(t, 16, height, size), diskOf(t, 16, height, size)
				begin := d.Writes()
				want(t, "Batch", Batch(d, height, size, leaves), api.OK)
				inOrder(t, o, height, size, leaves)
				if !reflect.DeepEqual(writesOf(t, d, begin), writesOf(t, o, begin)) {
					t.Fatal("other raw writes", height, size, n)
				}
			}
		}
	}
}

func TestBatchWithoutLeaves(t *testing.T) {
	for _, height := range heights() {
		for _, n := range some(height) {
			d := diskOf(t, 64, height, n)
			for _, leaves := range [][][]byte{nil, {}} {
				stays(t, "Batch of nothing", d, api.OK, func() api.Errno { return Batch(d, height, n, leaves) })
			}
		}
	}
}

// A batch gives places to all that it is given: Fresh is to be asked ahead.
func TestBatchOfLikeLeaves(t *testing.T) {
	d := newDisk(t, 64)
	l := texts("a", "a", "", "a", "")
	want(t, "Batch", Batch(d, 1, 0, l[:2]), api.OK)
	want(t, "Batch", Batch(d, 1, 2, l[2:]), api.OK)
	lies(t, "like leaves", d, filesOf(1, l))
}

func TestBatchWithWrongNumbers(t *testing.T) {
	d := diskOf(t, 64, 1, 5)
	great := [][]byte{bytes.Repeat([]byte{1}, api.MaxLeaf+1)}
	for _, leaves := range [][][]byte{nil, texts("a"), great} {
		for _, height := range noHeights() {
			stays(t, "no height", d, api.ErrArg, func() api.Errno { return Batch(d, height, 5, leaves) })
		}
		for _, size := range noSizes() {
			stays(t, "no size", d, api.ErrArg, func() api.Errno { return Batch(d, 1, size, leaves) })
		}
	}
}

func TestBatchOfGreatLeaves(t *testing.T) {
	great := bytes.Repeat([]byte{1}, api.MaxLeaf+1)
	for at := range 3 {
		d := diskOf(t, 4096, 1, 5)
		leaves := texts("a", "b", "c")
		leaves[at] = great
		for _, size := range []int{0, 4, 5, 6, api.MaxLeaves - 3, api.MaxLeaves - 2, api.MaxLeaves} {
			stays(t, "a great leaf", d, api.ErrBig, func() api.Errno { return Batch(d, 1, size, leaves) })
		}
		leaves[at] = great[1:]
		want(t, "the greatest leaf", Batch(d, 1, 5, leaves), api.OK)
		lies(t, "the greatest leaf", d, filesOf(1, append(leavesOf(0, 5), leaves...)))
	}
}

func TestBatchOfTooManyLeaves(t *testing.T) {
	d := diskOf(t, 64, 8, 5)
	for _, x := range []struct {
		size, n int
		want    api.Errno
	}{
		{api.MaxLeaves, 1, api.ErrFull}, {api.MaxLeaves - 1, 2, api.ErrFull}, {5, api.MaxLeaves - 4, api.ErrFull}, {0, api.MaxLeaves + 1, api.ErrFull}, {api.MaxLeaves, api.MaxLeaves, api.ErrFull},
		{api.MaxLeaves, 0, api.ErrRange}, {api.MaxLeaves - 1, 1, api.ErrRange}, {4, api.MaxLeaves - 4, api.ErrRange}, {0, api.MaxLeaves, api.ErrRange},
	} {
		stays(t, fmt.Sprint(x), d, x.want, func() api.Errno { return Batch(d, 8, x.size, make([][]byte, x.n)) })
	}
}

// emptyLeaves tells the files of n leaves without a byte, at the height 8.
func emptyLeaves(n int) map[string]string {
	files := map[string]string{}
	level := leafDigest(nil)
	full := make([]api.Digest, 256)
	for at, left := 0, n; left > 0; at, left = at+1, left-256 {
		files[leafName(8, at)] = strings.Repeat("\x00\x00", min(left, 256))
	}
	for l, left := 0, n; left > 0; l, left = l+1, left/256 {
		for at, rest := 0, left; rest > 0; at, rest = at+1, rest-256 {
			files[tileName(8, l, at)] = strings.Repeat(string(level[:]), min(rest, 256))
		}
		for i := range full {
			full[i] = level
		}
		level = rootOf(full)
	}
	return files
}

func TestBatchUpToMaxLeaves(t *testing.T) {
	d := diskWith(t, 4096, emptyLeaves(api.MaxLeaves-2))
	stays(t, "three leaves", d, api.ErrFull, func() api.Errno { return Batch(d, 8, api.MaxLeaves-2, make([][]byte, 3)) })
	want(t, "two leaves", Batch(d, 8, api.MaxLeaves-2, make([][]byte, 2)), api.OK)
	lies(t, "a full log", d, emptyLeaves(api.MaxLeaves))
	stays(t, "one leaf", d, api.ErrFull, func() api.Errno { return Batch(d, 8, api.MaxLeaves, make([][]byte, 1)) })
	stays(t, "no leaf", d, api.OK, func() api.Errno { return Batch(d, 8, api.MaxLeaves, nil) })
	stays(t, "Complete", d, api.OK, func() api.Errno { return Complete(d, 8, api.MaxLeaves) })
}

func TestBatchBehindOtherSizes(t *testing.T) {
	for _, height := range []int{1, 2, 8} {
		for n := range 10 {
			d := diskOf(t, 64, height, n)
			for size := range 12 {
				for _, leaves := range [][][]byte{nil, texts("a", "b", "c")} {
					if size != n {
						stays(t, "another size", d, api.ErrRange, func() api.Errno { return Batch(d, height, size, leaves) })
					}
				}
			}
		}
	}
}

// Each of the counts is looked at for itself: all else is as it must be.
func TestBatchLooksAtEachCount(t *testing.T) {
	digest := strings.Repeat("d", 32)
	for _, x := range []struct {
		what   string
		n      int
		change func(d *disk.Disk)
	}{
		{"a leaf's bytes too few", 11, func(d *disk.Disk) { cut(t, d, leafName(1, 5), 2) }},
		{"no file of leaves", 11, func(d *disk.Disk) { want(t, "Remove", d.Remove(leafName(1, 5)), api.OK) }},
		{"a leaf's bytes too many", 11, func(d *disk.Disk) { add(t, d, leafName(1, 5), "\x00\x01z") }},
		{"a leaf's bytes on an empty disk", 0, func(d *disk.Disk) { add(t, d, leafName(1, 0), "\x00\x00") }},
		{"a digest too few", 11, func(d *disk.Disk) { cut(t, d, tileName(1, 0, 5), 31) }},
		{"a digest too many", 11, func(d *disk.Disk) { add(t, d, tileName(1, 0, 5), digest) }},
		{"a digest on an empty disk", 0, func(d *disk.Disk) { add(t, d, tileName(1, 0, 0), digest) }},
		{"level 1 too few", 11, func(d *disk.Disk) { cut(t, d, tileName(1, 1, 2), 0) }},
		{"level 1 too many", 11, func(d *disk.Disk) { add(t, d, tileName(1, 1, 2), digest) }},
		{"level 1 on an empty disk", 0, func(d *disk.Disk) { add(t, d, tileName(1, 1, 0), digest) }},
		{"level 2 too few", 11, func(d *disk.Disk) { cut(t, d, tileName(1, 2, 0), 63) }},
		{"level 2 too many", 11, func(d *disk.Disk) { add(t, d, tileName(1, 2, 1), digest) }},
		{"level 3 too few", 11, func(d *disk.Disk) { want(t, "Remove", d.Remove(tileName(1, 3, 0)), api.OK) }},
		{"level 3 too many", 11, func(d *disk.Disk) { add(t, d, tileName(1, 3, 0), digest) }},
		{"level 4, the first that has nothing", 11, func(d *disk.Disk) { add(t, d, tileName(1, 4, 0), digest) }},
		{"level 1 of one leaf", 1, func(d *disk.Disk) { add(t, d, tileName(1, 1, 0), digest) }},
		{"level 2 of two leaves", 2, func(d *disk.Disk) { add(t, d, tileName(1, 2, 0), digest) }},
	} {
		d := diskOf(t, 64, 1, x.n)
		x.change(d)
		for _, leaves := range [][][]byte{nil, texts("a"), leavesOf(20, 40)} {
			stays(t, x.what, d, api.ErrRange, func() api.Errno { return Batch(d, 1, x.n, leaves) })
		}
	}
}

// Behind the first level that has nothing Batch does not look: what lies there is met by Complete, behind all the leaves.
func TestBatchLeavesHigherLevelsToComplete(t *testing.T) {
	digest := strings.Repeat("d", 32)
	d := diskOf(t, 64, 1, 3)
	add(t, d, tileName(1, 3, 0), digest)
	want(t, "Batch", Batch(d, 1, 3, leavesOf(3, 5)), api.ErrRange)
	files := filesOf(1, leavesOf(0, 3))
	for name, b := range filesOf(1, leavesOf(0, 5)) {
		if strings.HasPrefix(name, "leaf/") || strings.HasPrefix(name, "tile/1/0/") {
			files[name] = b
		}
	}
	files[tileName(1, 3, 0)] = digest
	lies(t, "what was done stays", d, files)

	// Where the batch brings that level as many as lie there, it lacks none.
	d = diskOf(t, 64, 1, 3)
	add(t, d, tileName(1, 3, 0), digest)
	want(t, "Batch", Batch(d, 1, 3, leavesOf(3, 8)), api.OK)
	files = filesOf(1, leavesOf(0, 8))
	files[tileName(1, 3, 0)] = digest
	lies(t, "what is there stays", d, files)
}

// Other files, those of another height among them, are nothing to a batch.
func TestBatchBesideOtherFiles(t *testing.T) {
	files := filesOf(2, leavesOf(0, 9))
	files["journal-000001"] = "j"
	files["tile/1/0/000.p/1"] = "p"
	files["leaf/1/0"] = "l"
	d := diskWith(t, 64, files)
	want(t, "Batch", Batch(d, 1, 0, leavesOf(5, 18)), api.OK)
	maps.Copy(files, filesOf(1, leavesOf(5, 18)))
	lies(t, "two heights", d, files)
}

// P17.4

func TestCompleteMakesWhatIsLacking(t *testing.T) {
	for _, height := range []int{1, 2, 3} {
		for n := 0; n <= greatest(height); n++ {
			whole := filesOf(height, leavesOf(0, n))
			for keep := range 6 {
				files := maps.Clone(whole)
				for level, l := range levelsOf(height, leavesOf(0, n)) {
					// Each level keeps other ones of its digests.
					if level > 0 {
						keepDigests(files, height, level, len(l), (keep*7+level*3)%(len(l)+1))
					}
				}
				d := diskWith(t, 64, files)
				want(t, "Complete", Complete(d, height, n), api.OK)
				lies(t, fmt.Sprint("height ", height, " leaves ", n), d, whole)
				stays(t, "a second Complete", d, api.OK, func() api.Errno { return Complete(d, height, n) })
			}
		}
	}
}

// keepDigests leaves the first of a level's digests.
func keepDigests(files map[string]string, height, level, has, keep int) {
	width := 1 << height
	for index := 0; index*width < has; index++ {
		name := tileName(height, level, index)
		if index*width >= keep {
			delete(files, name)
		} else {
			files[name] = files[name][:32*min(width, keep-index*width)]
		}
	}
}

func TestCompleteWritesInOrder(t *testing.T) {
	for _, height := range []int{1, 2} {
		for n := 0; n <= 34; n++ {
			files := filesOf(height, leavesOf(0, n))
			for level, l := range levelsOf(height, leavesOf(0, n)) {
				if level > 0 {
					keepDigests(files, height, level, len(l), len(l)/2)
				}
			}
			d, o := diskWith(t, 16, files), diskWith(t, 16, files)
			begin := d.Writes()
			want(t, "Complete", Complete(d, height, n), api.OK)
			inOrder(t, o, height, n, nil)
			if !reflect.DeepEqual(writesOf(t, d, begin), writesOf(t, o, begin)) {
				t.Fatal("other raw writes", height, n)
			}
		}
	}
}

// The level 0 may have more digests than n, and need have no leaves' bytes; a digest that is there is not looked at.
func TestCompleteOfFewerThanThereAre(t *testing.T) {
	for there := range 20 {
		for n := range there + 1 {
			files := map[string]string{}
			for name, b := range filesOf(1, leavesOf(0, there)) {
				if strings.HasPrefix(name, "tile/1/0/") {
					files[name] = b
				}
			}
			d := diskWith(t, 64, files)
			want(t, "Complete", Complete(d, 1, n), api.OK)
			for name, b := range filesOf(1, leavesOf(0, n)) {
				if strings.HasPrefix(name, "tile/1/") && !strings.HasPrefix(name, "tile/1/0/") {
					files[name] = b
				}
			}
			lies(t, fmt.Sprint(there, " leaves, of ", n), d, files)
		}
	}
}

func TestCompleteTakesWhatIsThere(t *testing.T) {
	d := diskWith(t, 64, map[string]string{
		tileName(1, 0, 0): strings.Repeat("a", 64), tileName(1, 0, 1): strings.Repeat("b", 64), tileName(1, 1, 0): strings.Repeat("c", 32),
	})
	want(t, "Complete", Complete(d, 1, 4), api.OK)
	one := api.Digest([]byte(strings.Repeat("c", 32)))
	b := api.Digest([]byte(strings.Repeat("b", 32)))
	two := rootOf([]api.Digest{b, b})
	root := rootOf([]api.Digest{one, two})
	got := filesOn(t, d)
	if got[tileName(1, 1, 0)] != string(one[:])+string(two[:]) || got[tileName(1, 2, 0)] != string(root[:]) || len(got) != 4 {
		t.Error("other digests")
	}
}

func TestCompleteWithWrongNumbers(t *testing.T) {
	d := diskOf(t, 64, 1, 5)
	for _, height := range noHeights() {
		for _, n := range append(noSizes(), 0, 5, 6) {
			stays(t, "no height", d, api.ErrArg, func() api.Errno { return Complete(d, height, n) })
		}
	}
	for _, n := range noSizes() {
		stays(t, "no size", d, api.ErrArg, func() api.Errno { return Complete(d, 1, n) })
	}
}

func TestCompleteOfOtherSizes(t *testing.T) {
	for _, height := range []int{1, 2, 8} {
		for there := range 18 {
			d := diskOf(t, 64, height, there)
			for _, n := range []int{there + 1, there + 2, 100, api.MaxLeaves - 1, api.MaxLeaves} {
				stays(t, "more than there are", d, api.ErrRange, func() api.Errno { return Complete(d, height, n) })
			}
			for n := range there + 1 {
				e := api.OK
				if n>>height != there>>height {
					e = api.ErrRange
				}
				stays(t, fmt.Sprint("height ", height, " of ", there, " the first ", n), d, e, func() api.Errno { return Complete(d, height, n) })
			}
		}
	}
}

// Each level above is looked at ahead of anything that is done, also those behind the first one that has nothing.
func TestCompleteLooksAtEachLevel(t *testing.T) {
	for _, height := range heights() {
		for level := 1; height*(level+1) <= 48; level++ {
			n := 2<<height + 1
			files := map[string]string{}
			for name, b := range filesOf(height, leavesOf(0, n)) {
				if strings.HasPrefix(name, fmt.Sprintf("tile/%d/0/", height)) {
					files[name] = b
				}
			}
			has, e := above(height, level, n)
			want(t, "above", e, api.OK)
			for i := range has + 1 {
				files[tileName(height, level, i>>height)] += strings.Repeat("d", 32)
			}
			d := diskWith(t, 64, files)
			stays(t, fmt.Sprint("height ", height, " level ", level), d, api.ErrRange, func() api.Errno { return Complete(d, height, n) })
		}
	}
}

func TestCompleteOfNothing(t *testing.T) {
	d := newDisk(t, 64)
	for _, height := range heights() {
		stays(t, "an empty disk", d, api.OK, func() api.Errno { return Complete(d, height, 0) })
		stays(t, "an empty disk", d, api.ErrRange, func() api.Errno { return Complete(d, height, 1) })
	}
}

// P17.5

func TestErrorsOfTheDisk(t *testing.T) {
	torn := "torn"
	for _, x := range []struct {
		what, name string
		size, n    int
		done       []string // the files, by how their names begin, that have all of the batch
		leaves     int      // how many leaves have their bytes
		digests    int      // how many their digests
	}{
		{"leaves torn at once", leafName(1, 1), 3, 5, nil, 3, 3},
		{"leaves torn later", leafName(1, 2), 3, 5, nil, 4, 3},
		{"level 0 torn at once", tileName(1, 0, 1), 3, 5, nil, 8, 3},
		{"level 0 torn later", tileName(1, 0, 3), 3, 5, nil, 8, 6},
		{"level 1 torn at once", tileName(1, 1, 0), 3, 5, nil, 8, 8},
		{"level 1 torn later", tileName(1, 1, 1), 3, 5, nil, 8, 8},
		{"level 2 torn", tileName(1, 2, 0), 3, 5, []string{"tile/1/1/"}, 8, 8},
		{"level 3 torn", tileName(1, 3, 0), 3, 5, []string{"tile/1/1/", "tile/1/2/"}, 8, 8},
	} {
		d := diskOf(t, 64, 1, x.size)
		files := filesOf(1, leavesOf(0, x.size))
		want(t, "Batch", func() api.Errno {
			add(t, d, x.name, torn)
			return Batch(d, 1, x.size, leavesOf(x.size, x.size+x.n))
		}(), api.ErrLost)
		whole := filesOf(1, leavesOf(0, x.size+x.n))
		for name, b := range whole {
			for _, begin := range x.done {
				if strings.HasPrefix(name, begin) {
					files[name] = b
				}
			}
		}
		for name, b := range filesOf(1, leavesOf(0, x.leaves)) {
			if strings.HasPrefix(name, "leaf/") {
				files[name] = b
			}
		}
		for name, b := range filesOf(1, leavesOf(0, x.digests)) {
			if strings.HasPrefix(name, "tile/1/0/") {
				files[name] = b
			}
		}
		if x.what == "level 1 torn later" {
			files[tileName(1, 1, 0)] = whole[tileName(1, 1, 0)]
		}
		files[x.name] += torn
		lies(t, x.what, d, files)
	}
}

// What is torn where nothing comes does no harm.
func TestTornWhereNothingComes(t *testing.T) {
	d := diskOf(t, 64, 1, 4)
	add(t, d, tileName(1, 3, 0), "torn")
	want(t, "Batch", Batch(d, 1, 4, leavesOf(4, 7)), api.OK)
	want(t, "Batch", Batch(d, 1, 7, leavesOf(7, 8)), api.ErrLost)
	want(t, "Complete", Complete(d, 1, 7), api.ErrRange)
	want(t, "Complete", Complete(d, 1, 8), api.ErrLost)
	want(t, "Trim", shelf.Trim(d, 1, 3, 0), api.OK)
	want(t, "Complete", Complete(d, 1, 8), api.OK)
	lies(t, "made whole", d, filesOf(1, leavesOf(0, 8)))
}

// P17.6

func TestBatchMakesLevels(t *testing.T) {
	for _, height := range []int{1, 2, 3, 7} {
		for _, n := range some(height) {
			d := newDisk(t, 512)
			want(t, "Batch", Batch(d, height, 0, leavesOf(0, n/3)), api.OK)
			want(t, "Batch", Batch(d, height, n/3, leavesOf(n/3, n)), api.OK)
			var l []api.Digest
			for _, leaf := range leavesOf(0, n) {
				l = append(l, tree.Leaf(leaf))
			}
			for level := 0; height*(level+1) <= 48; level++ {
				levelIs(t, d, height, level, l)
			}
		}
	}
}

// levelIs fails unless a level has just what Above says, and each digest is tree.Sub of its leaves.
func levelIs(t *testing.T, d *disk.Disk, height, level int, l []api.Digest) {
	t.Helper()
	n, e := Above(height, level, len(l))
	want(t, "Above", e, api.OK)
	has, e := shelf.Count(d, height, level)
	want(t, "Count", e, api.OK)
	if has != n {
		t.Fatal("height", height, "level", level, "has", has, "not", n)
	}
	width := 1 << (height * level)
	for i, x := range shelf.All(d, height, level) {
		sub, e := tree.Sub(l, api.Span{Begin: i * width, End: (i + 1) * width})
		want(t, "Sub", e, api.OK)
		if x != sub {
			t.Fatal("height", height, "level", level, "digest", i)
		}
	}
}

func TestTwoBatchesAreOne(t *testing.T) {
	for _, height := range []int{1, 2, 3} {
		for n := 0; n <= 34; n++ {
			whole := filesOf(height, leavesOf(0, n))
			for first := range n + 1 {
				d := newDisk(t, 64)
				want(t, "first", Batch(d, height, 0, leavesOf(0, first)), api.OK)
				lies(t, fmt.Sprint("first ", first), d, filesOf(height, leavesOf(0, first)))
				want(t, "second", Batch(d, height, first, leavesOf(first, n)), api.OK)
				lies(t, fmt.Sprint("height ", height, " first ", first, " of ", n), d, whole)
			}
		}
	}
}

func TestManyBatchesAreOne(t *testing.T) {
	for _, height := range heights() {
		d, o := newDisk(t, 64), newDisk(t, 4096)
		n := 0
		for size := 1; n < greatest(height); size = size*5%17 + 1 {
			want(t, "Batch", Batch(d, height, n, leavesOf(n, n+size)), api.OK)
			n += size
		}
		want(t, "Batch", Batch(o, height, 0, leavesOf(0, n)), api.OK)
		if !d.Same(o) {
			t.Error("other files", height, n)
		}
	}
}

// under tells whether a tile's file has any of the leaves from one on under it, by the file's name, which a batch of the sizes here writes with three digits.
func under(t *testing.T, name string, height, size, n int) bool {
	t.Helper()
	parts := strings.Split(name, "/")
	if len(parts) != 4 || parts[0] != "tile" || parts[1] != strconv.Itoa(height) {
		t.Fatal("another file", name)
	}
	level, _ := strconv.Atoi(parts[2])
	index, _ := strconv.Atoi(parts[3])
	width := 1 << (height * (level + 1))
	return index*width < size+n && (index+1)*width > size
}

func TestBatchWritesOnlyAboveItsLeaves(t *testing.T) {
	for _, height := range []int{1, 2, 3} {
		for size := range 20 {
			for n := range 20 {
				d := diskOf(t, 16, height, size)
				begin := d.Writes()
				want(t, "Batch", Batch(d, height, size, leavesOf(size, size+n)), api.OK)
				for _, raw := range writesOf(t, d, begin) {
					if raw.Kind != api.RawCreate && raw.Kind != api.RawAppend {
						t.Fatal("a raw write of the kind", raw.Kind)
					}
					if strings.HasPrefix(raw.Name, "tile/") && !under(t, raw.Name, height, size, n) {
						t.Fatal("height", height, "size", size, "leaves", n, "wrote to", raw.Name)
					}
				}
			}
		}
	}
}

// W6: behind any raw write all files are beginnings of those that the batch makes, and what was there is there.
func TestBatchCutAnywhere(t *testing.T) {
	for _, x := range []struct{ height, size, n int }{{1, 0, 5}, {1, 3, 6}, {1, 7, 1}, {2, 3, 14}, {2, 15, 2}, {3, 7, 2}} {
		d := diskOf(t, 5, x.height, x.size)
		begin := d.Writes()
		before := filesOn(t, d)
		want(t, "Batch", Batch(d, x.height, x.size, leavesOf(x.size, x.size+x.n)), api.OK)
		behind := filesOn(t, d)
		for n := begin; n <= d.Writes(); n++ {
			o, e := d.After(n)
			want(t, "After", e, api.OK)
			now := filesOn(t, o)
			for name, b := range now {
				if !strings.HasPrefix(behind[name], b) {
					t.Fatal(x, n, name)
				}
			}
			for name, b := range before {
				if !strings.HasPrefix(now[name], b) {
					t.Fatal(x, n, name)
				}
			}
		}
	}
}

// Rule 1 of DOC.md

func TestWithoutDisk(t *testing.T) {
	great := [][]byte{bytes.Repeat([]byte{1}, api.MaxLeaf+1)}
	for _, d := range []*disk.Disk{nil, {}} {
		for _, height := range append(noHeights(), heights()...) {
			for _, n := range append(noSizes(), 0, 1, api.MaxLeaves) {
				for _, leaves := range [][][]byte{nil, texts("a"), great} {
					want(t, "Batch", Batch(d, height, n, leaves), api.ErrNil)
				}
				want(t, "Complete", Complete(d, height, n), api.ErrNil)
			}
		}
		if d != nil && (d.Writes() != 0 || d.Sector() != 0) {
			t.Error("a disk that nobody made was written")
		}
	}
}

// Rule 2 of DOC.md

func TestFirstErrorOfBatch(t *testing.T) {
	great := bytes.Repeat([]byte{1}, api.MaxLeaf+1)
	many := make([][]byte, api.MaxLeaves+1)
	many[api.MaxLeaves] = great
	d := diskOf(t, 64, 1, 5)
	for _, x := range []struct {
		what         string
		height, size int
		leaves       [][]byte
		want         api.Errno
	}{
		{"no height and a great leaf", 0, 5, [][]byte{great}, api.ErrArg},
		{"no size and a great leaf", 1, -1, [][]byte{great}, api.ErrArg},
		{"no size and too many leaves", 1, api.MaxLeaves + 1, many, api.ErrArg},
		{"a great leaf among too many", 1, 5, many, api.ErrBig},
		{"a great leaf behind another size", 1, 4, [][]byte{nil, great}, api.ErrBig},
		{"too many leaves behind another size", 1, 4, many[:api.MaxLeaves], api.ErrFull},
		{"another size", 1, 4, [][]byte{great[1:]}, api.ErrRange},
		{"another height", 2, 5, [][]byte{great[1:]}, api.ErrRange},
	} {
		stays(t, x.what, d, x.want, func() api.Errno { return Batch(d, x.height, x.size, x.leaves) })
	}
}

// A wrong count is told ahead of what is torn.
func TestWrongCountAheadOfTorn(t *testing.T) {
	d := diskOf(t, 64, 1, 3)
	add(t, d, leafName(1, 1), "t")
	add(t, d, tileName(1, 0, 1), "t")
	stays(t, "Batch", d, api.ErrRange, func() api.Errno { return Batch(d, 1, 4, texts("a")) })
	stays(t, "Batch", d, api.ErrLost, func() api.Errno { return Batch(d, 1, 3, texts("a")) })
}

// Rule 4 of DOC.md

func TestWhatIsHandedInStays(t *testing.T) {
	leaves := make([][]byte, 0, 9)
	for n := range 5 {
		room := append(make([]byte, 0, 99), leafOf(n)...)
		copy(room[len(room):cap(room)], bytes.Repeat([]byte{170}, 99))
		leaves = append(leaves, room)
	}
	spare := []byte("spare")
	leaves[:cap(leaves)][5] = spare
	d := newDisk(t, 64)
	if got := fresh(t, digests.New(), leaves); len(got) != 5 {
		t.Error(got)
	}
	want(t, "Batch", Batch(d, 1, 0, leaves), api.OK)
	for n, leaf := range leaves {
		if !bytes.Equal(leaf, leafOf(n)) || !bytes.Equal(leaf[len(leaf):cap(leaf)], bytes.Repeat([]byte{170}, 99-len(leaf))) {
			t.Error("changed", n)
		}
		// What is changed behind the call is not the disk's.
		for i := range leaf {
			leaf[i] = 'z'
		}
	}
	if &leaves[:cap(leaves)][5][0] != &spare[0] || string(spare) != "spare" || leaves[:cap(leaves)][6] != nil {
		t.Error("the spare room changed")
	}
	lies(t, "leaves changed behind the call", d, filesOf(1, leavesOf(0, 5)))
	want(t, "Batch", Batch(d, 1, 5, leavesOf(5, 9)), api.OK)
	lies(t, "a second batch", d, filesOf(1, leavesOf(0, 9)))
}
