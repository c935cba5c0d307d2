package compact

import (
	"bytes"
	"crypto/sha256"
	"encoding/binary"
	"math"
	"slices"
	"testing"

	"coppice/api"
	"coppice/tree"
)

// most is the leaf up to which all spans are gone through.
const most = 36

// someLeaves tells n digests, all unlike, others for each kind.
func someLeaves(kind byte, n int) []api.Digest {
	l := make([]api.Digest, n)
	for i := range l {
		l[i] = sha256.Sum256([]byte{kind, byte(i >> 8), byte(i)})
	}
	return l
}

func fresh(t *testing.T, begin int) *Range {
	t.Helper()
	r, e := New(begin)
	if e != api.OK || r == nil {
		t.Fatal("new", begin, e)
	}
	return r
}

func put(t *testing.T, r *Range, level int, d api.Digest) {
	t.Helper()
	if e := r.AppendNode(level, d); e != api.OK {
		t.Fatal("append", r.Span(), level, e)
	}
}

func merge(t *testing.T, r, o *Range) {
	t.Helper()
	if e := r.Merge(o); e != api.OK {
		t.Fatal("merge", r.Span(), o.Span(), e)
	}
}

func root(t *testing.T, r *Range) api.Digest {
	t.Helper()
	d, e := r.Root()
	if e != api.OK {
		t.Fatal("root", r.Span(), e)
	}
	return d
}

func loaded(t *testing.T, b []byte) *Range {
	t.Helper()
	r, e := Load(b)
	if e != api.OK || r == nil {
		t.Fatalf("load % x: %v", b, e)
	}
	return r
}

// grown tells the range of the leaves of a span, one by one.
func grown(t *testing.T, l []api.Digest, begin, end int) *Range {
	t.Helper()
	r := fresh(t, begin)
	for _, d := range l[begin:end] {
		if e := r.Append(d); e != api.OK {
			t.Fatal("append", r.Span(), e)
		}
	}
	return r
}

// nodes tells a span's parts by the words of the chapter, trying the greatest subtree first.
func nodes(s api.Span) []api.Node {
	var out []api.Node
	for at := s.Begin; at < s.End; {
		level := 48
		for at%(1<<level) != 0 || 1<<level > s.End-at {
			level--
		}
		out = append(out, api.Node{Level: level, Index: at / (1 << level)})
		at += 1 << level
	}
	return out
}

func gathered(r *Range) (n []api.Node, d []api.Digest) {
	for node, digest := range r.All() {
		n, d = append(n, node), append(d, digest)
	}
	return n, d
}

// written tells the bytes of a range with these digests.
func written(begin, end uint64, l ...api.Digest) []byte {
	b := binary.BigEndian.AppendUint64(nil, begin)
	b = binary.BigEndian.AppendUint64(b, end)
	for _, d := range l {
		b = append(b, d[:]...)
	}
	return b
}

// hold fails unless a range has these leaves, and just their parts.
func hold(t *testing.T, r *Range, begin, end int, l ...api.Digest) {
	t.Helper()
	s := api.Span{Begin: begin, End: end}
	if r.Span() != s {
		t.Fatal(r.Span(), "not", s)
	}
	n, d := gathered(r)
	if !slices.Equal(n, nodes(s)) || r.Len() != len(n) {
		t.Fatal(s, n, r.Len())
	}
	if !slices.Equal(d, l) {
		t.Fatalf("%v: %x, not %x", s, d, l)
	}
}

// subs tells the root of each part of a span by its definition.
func subs(t *testing.T, l []api.Digest, begin, end int) []api.Digest {
	t.Helper()
	var out []api.Digest
	for _, n := range nodes(api.Span{Begin: begin, End: end}) {
		d, e := tree.Sub(l, api.Span{Begin: n.Index << n.Level, End: (n.Index + 1) << n.Level})
		if e != api.OK {
			t.Fatal(n, e)
		}
		out = append(out, d)
	}
	return out
}

// stays fails unless a call answers an error and leaves the range as it was.
func stays(t *testing.T, r *Range, want api.Errno, call func() api.Errno) {
	t.Helper()
	was, s, n := r.Bytes(), r.Span(), r.Len()
	if e := call(); e != want {
		t.Error(s, e, "not", want)
	}
	if !bytes.Equal(r.Bytes(), was) || r.Span() != s || r.Len() != n {
		t.Error(s, "has changed")
	}
}

// P5.1

func TestNewRangesAreEmpty(t *testing.T) {
	for _, begin := range []int{0, 1, 2, 3, 1 << 20, 1 << 32, api.MaxSize - 1, api.MaxSize} {
		hold(t, fresh(t, begin), begin, begin)
	}
}

func TestNewRangesOutside(t *testing.T) {
	for _, begin := range []int{-1, -2, -api.MaxSize, math.MinInt, math.MinInt + 1, api.MaxSize + 1, 2 * api.MaxSize, math.MaxInt} {
		if r, e := New(begin); r != nil || e != api.ErrRange {
			t.Error(begin, r, e)
		}
	}
}

func TestTheExamplesParts(t *testing.T) {
	l := someLeaves(1, 5)
	hold(t, grown(t, l, 0, 3), 0, 3, tree.Node(l[0], l[1]), l[2])
	r := grown(t, l, 1, 4)
	if n, _ := gathered(r); !slices.Equal(n, []api.Node{{Level: 0, Index: 1}, {Level: 1, Index: 1}}) {
		t.Error(n)
	}
	hold(t, r, 1, 4, l[1], tree.Node(l[2], l[3]))
	r.Append(l[4])
	if n, _ := gathered(r); !slices.Equal(n, []api.Node{{Level: 0, Index: 1}, {Level: 1, Index: 1}, {Level: 0, Index: 4}}) {
		t.Error(n)
	}
	hold(t, r, 1, 5, l[1], tree.Node(l[2], l[3]), l[4])
}

// P5.2

func TestAppendIsAppendNodeOfLevelNought(t *testing.T) {
	l := someLeaves(2, 2*most)
	for begin := range most {
		one, other := fresh(t, begin), fresh(t, begin)
		for _, d := range l[begin:] {
			if e := one.Append(d); e != api.OK {
				t.Fatal(e)
			}
			put(t, other, 0, d)
			if !bytes.Equal(one.Bytes(), other.Bytes()) || one.Span() != other.Span() {
				t.Fatal(one.Span())
			}
		}
	}
}

func TestASubtreeIsAsItsLeaves(t *testing.T) {
	l := someLeaves(3, 96)
	for begin := range 33 {
		for level := range 6 {
			for end := begin; end <= 64; end++ {
				if end%(1<<level) != 0 || end+1<<level > len(l) {
					continue
				}
				behind := end + 1<<level
				d, e := tree.Sub(l, api.Span{Begin: end, End: behind})
				if e != api.OK {
					t.Fatal(e)
				}
				r := grown(t, l, begin, end)
				put(t, r, level, d)
				hold(t, r, begin, behind, subs(t, l, begin, behind)...)
			}
		}
	}
}

func TestTwoHalvesAreOneWhateverTheirDigestsAre(t *testing.T) {
	for _, d := range [][2]api.Digest{{{}, {}}, {{1}, {1}}, {{1}, {2}}, {tree.Empty(), {}}} {
		for level := range 48 {
			r := fresh(t, 0)
			put(t, r, level, d[0])
			put(t, r, level, d[1])
			hold(t, r, 0, 2<<level, tree.Node(d[0], d[1]))
		}
	}
}

func TestNeighboursThatAreNoHalvesStayApart(t *testing.T) {
	for level := range 47 {
		one, two, three := api.Digest{1}, api.Digest{2}, api.Digest{3}
		r := fresh(t, 1<<level)
		put(t, r, level, one)
		put(t, r, level, two)
		hold(t, r, 1<<level, 3<<level, one, two)
		put(t, r, level, three)
		hold(t, r, 1<<level, 4<<level, one, tree.Node(two, three))
	}
}

func TestLevelsThatAreNone(t *testing.T) {
	for _, begin := range []int{0, 1, 3, 1 << 47, api.MaxSize - 1, api.MaxSize} {
		r := fresh(t, begin)
		for _, level := range []int{-1, -2, -64, math.MinInt, math.MinInt + 1, 49, 50, 63, 64, 65, 256, 1 << 32, math.MaxInt} {
			stays(t, r, api.ErrArg, func() api.Errno { return r.AppendNode(level, api.Digest{1}) })
		}
	}
}

func TestSubtreesThatCanNotStandAtTheEnd(t *testing.T) {
	r := grown(t, someLeaves(4, 3), 0, 3)
	stays(t, r, api.ErrApart, func() api.Errno { return r.AppendNode(1, api.Digest{1}) })
	for begin := range 70 {
		r := fresh(t, begin)
		for level := range 49 {
			if begin%(1<<level) != 0 {
				stays(t, r, api.ErrApart, func() api.Errno { return r.AppendNode(level, api.Digest{1}) })
				continue
			}
			got := r.Clone()
			put(t, got, level, api.Digest{1})
			hold(t, got, begin, begin+1<<level, api.Digest{1})
		}
	}
}

func TestNothingStandsAboveTheGreatestSize(t *testing.T) {
	for level := range 49 {
		full := fresh(t, api.MaxSize)
		stays(t, full, api.ErrBig, func() api.Errno { return full.AppendNode(level, api.Digest{1}) })
		r := fresh(t, api.MaxSize-1<<level)
		put(t, r, level, api.Digest{2})
		hold(t, r, api.MaxSize-1<<level, api.MaxSize, api.Digest{2})
		for above := range 49 {
			stays(t, r, api.ErrBig, func() api.Errno { return r.AppendNode(above, api.Digest{3}) })
		}
		stays(t, r, api.ErrBig, func() api.Errno { return r.Append(api.Digest{3}) })
	}
}

func TestOneErrorGoesAheadOfAnother(t *testing.T) {
	for level := 1; level < 49; level++ {
		r := fresh(t, api.MaxSize-1)
		stays(t, r, api.ErrApart, func() api.Errno { return r.AppendNode(level, api.Digest{1}) })
	}
	r := fresh(t, api.MaxSize/2)
	stays(t, r, api.ErrApart, func() api.Errno { return r.AppendNode(48, api.Digest{1}) })
	put(t, r, 47, api.Digest{1})
	hold(t, r, api.MaxSize/2, api.MaxSize, api.Digest{1})
}

// steep tells the range of all leaves but the first and the last one of the greatest tree.
func steep(t *testing.T) *Range {
	t.Helper()
	r := fresh(t, 1)
	for level := range 47 {
		put(t, r, level, api.Digest{1, byte(level)})
	}
	for level := range 47 {
		put(t, r, 46-level, api.Digest{2, byte(46 - level)})
	}
	return r
}

func TestRangesWithManyParts(t *testing.T) {
	r := steep(t)
	var l []api.Digest
	for level := range 47 {
		l = append(l, api.Digest{1, byte(level)})
	}
	for level := range 47 {
		l = append(l, api.Digest{2, byte(46 - level)})
	}
	hold(t, r, 1, api.MaxSize-1, l...)
	if r.Len() != 94 {
		t.Error(r.Len())
	}
}

func TestALeafMayMakeAllPartsOne(t *testing.T) {
	r := fresh(t, 0)
	for level := 47; level >= 0; level-- {
		put(t, r, level, api.Digest{1, byte(level)})
	}
	if r.Len() != 48 || r.Span() != (api.Span{End: api.MaxSize - 1}) {
		t.Fatal(r.Len(), r.Span())
	}
	want := api.Digest{5}
	for level := range 48 {
		want = tree.Node(api.Digest{1, byte(level)}, want)
	}
	if e := r.Append(api.Digest{5}); e != api.OK {
		t.Fatal(e)
	}
	hold(t, r, 0, api.MaxSize, want)
	if root(t, r) != want {
		t.Error("another root")
	}
}

// P5.3

func TestMergingEveryPairOfNeighbours(t *testing.T) {
	l := someLeaves(5, most)
	for begin := range most + 1 {
		for end := begin; end <= most; end++ {
			want := subs(t, l, begin, end)
			for mid := begin; mid <= end; mid++ {
				r, o := grown(t, l, begin, mid), grown(t, l, mid, end)
				was := o.Bytes()
				merge(t, r, o)
				hold(t, r, begin, end, want...)
				if !bytes.Equal(o.Bytes(), was) {
					t.Fatal(o.Span(), "did not stay")
				}
			}
		}
	}
}

func TestMergingTheExamplesRanges(t *testing.T) {
	l := someLeaves(6, 4)
	r := grown(t, l, 0, 2)
	merge(t, r, grown(t, l, 2, 4))
	if n, _ := gathered(r); !slices.Equal(n, []api.Node{{Level: 2}}) {
		t.Error(n)
	}
	hold(t, r, 0, 4, tree.Node(tree.Node(l[0], l[1]), tree.Node(l[2], l[3])))
}

func TestMergingGreatRanges(t *testing.T) {
	first, last := fresh(t, 0), fresh(t, api.MaxSize-1)
	put(t, first, 0, api.Digest{3})
	put(t, last, 0, api.Digest{4})
	left, right := api.Digest{3}, api.Digest{4}
	for level := range 47 {
		left = tree.Node(left, api.Digest{1, byte(level)})
		right = tree.Node(api.Digest{2, byte(level)}, right)
	}
	merge(t, first, steep(t))
	hold(t, first, 0, api.MaxSize-1, append([]api.Digest{left}, allOf(2)...)...)
	merge(t, first, last)
	hold(t, first, 0, api.MaxSize, tree.Node(left, right))
	merge(t, first, fresh(t, api.MaxSize))
	hold(t, first, 0, api.MaxSize, tree.Node(left, right))
}

// allOf tells the digests of steep's right side.
func allOf(kind byte) []api.Digest {
	var l []api.Digest
	for level := 46; level >= 0; level-- {
		l = append(l, api.Digest{kind, byte(level)})
	}
	return l
}

func TestMergingRangesThatDoNotTouch(t *testing.T) {
	l := someLeaves(7, 12)
	for end := range 9 {
		for begin := range 9 {
			r, o := grown(t, l, end/2, end), grown(t, l, begin, begin+3)
			if begin != end {
				stays(t, o, api.ErrApart, func() api.Errno { return r.Merge(o) })
				stays(t, r, api.ErrApart, func() api.Errno { return r.Merge(o) })
			}
		}
	}
	far := fresh(t, api.MaxSize)
	r := fresh(t, 0)
	stays(t, r, api.ErrApart, func() api.Errno { return r.Merge(far) })
	stays(t, far, api.ErrApart, func() api.Errno { return far.Merge(r) })
}

func TestMergingARangeWithItself(t *testing.T) {
	for _, begin := range []int{0, 1, 6, api.MaxSize} {
		r := fresh(t, begin)
		merge(t, r, r)
		hold(t, r, begin, begin)
	}
	l := someLeaves(8, 9)
	for begin := range 5 {
		for end := begin + 1; end < 9; end++ {
			r := grown(t, l, begin, end)
			stays(t, r, api.ErrApart, func() api.Errno { return r.Merge(r) })
		}
	}
}

func TestMergedRangesGoOnByThemselves(t *testing.T) {
	l := someLeaves(9, 12)
	r, o := grown(t, l, 0, 4), grown(t, l, 4, 7)
	merge(t, r, o)
	r.Append(l[7])
	hold(t, o, 4, 7, subs(t, l, 4, 7)...)
	o.Append(l[8])
	hold(t, r, 0, 8, subs(t, l, 0, 8)...)
	empty := fresh(t, 4)
	o = grown(t, l, 4, 7)
	merge(t, empty, o)
	empty.Append(l[7])
	hold(t, o, 4, 7, subs(t, l, 4, 7)...)
}

// P5.4

func TestRoots(t *testing.T) {
	l := someLeaves(10, 300)
	r := fresh(t, 0)
	if root(t, r) != tree.Empty() {
		t.Error("of none")
	}
	for i, d := range l {
		r.Append(d)
		was := r.Bytes()
		if root(t, r) != tree.Root(l[:i+1]) {
			t.Fatal(i + 1)
		}
		if !bytes.Equal(r.Bytes(), was) {
			t.Fatal(i+1, "has changed")
		}
	}
}

func TestRootsOfGreatRanges(t *testing.T) {
	a, b, c := api.Digest{1}, api.Digest{2}, api.Digest{3}
	r := fresh(t, 0)
	put(t, r, 47, a)
	if root(t, r) != a {
		t.Error("of one part")
	}
	put(t, r, 46, b)
	put(t, r, 3, c)
	if root(t, r) != tree.Node(a, tree.Node(b, c)) {
		t.Error("of three parts")
	}
}

func TestRangesThatDoNotBeginAtNoughtHaveNoRoot(t *testing.T) {
	l := someLeaves(11, 12)
	for begin := 1; begin < 9; begin++ {
		for end := begin; end < 12; end++ {
			if d, e := grown(t, l, begin, end).Root(); d != (api.Digest{}) || e != api.ErrRange {
				t.Error(begin, end, d, e)
			}
		}
	}
	if d, e := fresh(t, api.MaxSize).Root(); d != (api.Digest{}) || e != api.ErrRange {
		t.Error(d, e)
	}
}

// P5.5

func TestBytes(t *testing.T) {
	l := someLeaves(12, most)
	for begin := range most + 1 {
		for end := begin; end <= most; end++ {
			want := written(uint64(begin), uint64(end), subs(t, l, begin, end)...)
			if b := grown(t, l, begin, end).Bytes(); !bytes.Equal(b, want) {
				t.Fatalf("%d %d: % x", begin, end, b)
			}
		}
	}
	if b := fresh(t, api.MaxSize).Bytes(); !bytes.Equal(b, []byte{0, 1, 0, 0, 0, 0, 0, 0, 0, 1, 0, 0, 0, 0, 0, 0}) {
		t.Errorf("% x", b)
	}
}

func TestLoadedRangesGoOn(t *testing.T) {
	l := someLeaves(13, most+3)
	for begin := range most + 1 {
		for end := begin; end <= most; end++ {
			r := loaded(t, written(uint64(begin), uint64(end), subs(t, l, begin, end)...))
			hold(t, r, begin, end, subs(t, l, begin, end)...)
			for i := end; i < end+3; i++ {
				put(t, r, 0, l[i])
			}
			hold(t, r, begin, end+3, subs(t, l, begin, end+3)...)
		}
	}
}

func TestLoadedRangesAtTheLimits(t *testing.T) {
	for _, at := range []uint64{0, 1, api.MaxSize - 1, api.MaxSize} {
		hold(t, loaded(t, written(at, at)), int(at), int(at))
	}
	d := api.Digest{6}
	hold(t, loaded(t, written(0, api.MaxSize, d)), 0, api.MaxSize, d)
	hold(t, loaded(t, written(api.MaxSize-1, api.MaxSize, d)), api.MaxSize-1, api.MaxSize, d)
	r := steep(t)
	_, l := gathered(r)
	hold(t, loaded(t, r.Bytes()), 1, api.MaxSize-1, l...)
}

func refused(t *testing.T, what string, b []byte) {
	t.Helper()
	if r, e := Load(b); r != nil || e != api.ErrForm {
		t.Errorf("%s: % x: %v %v", what, b, r, e)
	}
}

func TestBytesOfAnyOtherLengthAreNoRange(t *testing.T) {
	l := someLeaves(14, 9)
	refused(t, "nil", nil)
	refused(t, "15 bytes", make([]byte, 15))
	for begin := range 9 {
		for end := begin; end <= 9; end++ {
			b := grown(t, l, begin, end).Bytes()
			for n := range b {
				refused(t, "too short", b[:n])
			}
			for _, n := range []int{1, 8, 16, 31, 32, 33, 64} {
				refused(t, "too long", append(slices.Clone(b), make([]byte, n)...))
			}
		}
	}
	b := steep(t).Bytes()
	refused(t, "too short", b[:len(b)-32])
	refused(t, "too long", append(slices.Clone(b), make([]byte, 32)...))
	refused(t, "too long by far", make([]byte, 1<<20))
}

func TestSpansThatAreNoneAreNoRange(t *testing.T) {
	for _, s := range [][2]uint64{
		{1, 0}, {2, 1}, {5, 3}, {api.MaxSize, 0}, {api.MaxSize, api.MaxSize - 1},
		{0, api.MaxSize + 1}, {api.MaxSize, api.MaxSize + 1}, {api.MaxSize + 1, api.MaxSize}, {api.MaxSize + 1, api.MaxSize + 1}, {0, 2 * api.MaxSize},
		{math.MaxInt64, math.MaxInt64}, {1 << 63, 1 << 63}, {1 << 63, 0}, {1<<63 + 1, 1}, {0, 1 << 63}, {0, math.MaxUint64}, {math.MaxUint64, 0}, {math.MaxUint64, 1}, {math.MaxUint64, math.MaxUint64},
	} {
		for n := range 100 {
			refused(t, "span", written(s[0], s[1], someLeaves(15, n)...))
		}
	}
}

func TestClonesAreRangesOfTheirOwn(t *testing.T) {
	l := someLeaves(16, 12)
	for begin := range 5 {
		for end := begin; end < 9; end++ {
			r := grown(t, l, begin, end)
			c := r.Clone()
			if c == r || c == nil {
				t.Fatal("no range of its own")
			}
			hold(t, c, begin, end, subs(t, l, begin, end)...)
			c.Append(api.Digest{99})
			hold(t, r, begin, end, subs(t, l, begin, end)...)
			c = r.Clone()
			r.Append(l[end])
			r.Append(l[end+1])
			hold(t, c, begin, end, subs(t, l, begin, end)...)
			c.Append(l[end])
			hold(t, c, begin, end+1, subs(t, l, begin, end+1)...)
			hold(t, r, begin, end+2, subs(t, l, begin, end+2)...)
		}
	}
}

// P5.6

func TestEachPartIsItsLeavesRoot(t *testing.T) {
	l := someLeaves(17, most)
	for begin := range most + 1 {
		for end := begin; end <= most; end++ {
			r := grown(t, l, begin, end)
			hold(t, r, begin, end, subs(t, l, begin, end)...)
			if begin == 0 && root(t, r) != tree.Root(l[:end]) {
				t.Error("root", end)
			}
		}
	}
}

// mergings calls f with the range that each order of merging neighbours makes of some.
func mergings(t *testing.T, l []*Range, f func(r *Range)) {
	if len(l) == 1 {
		f(l[0])
		return
	}
	for i := range len(l) - 1 {
		r := l[i].Clone()
		merge(t, r, l[i+1])
		mergings(t, slices.Concat(l[:i], []*Range{r}, l[i+2:]), f)
	}
}

func TestTheOrderOfMergingDoesNotMatter(t *testing.T) {
	l := someLeaves(18, 64)
	for _, cuts := range [][]int{{0, 1, 2, 3, 4, 5}, {0, 3, 5, 5, 8, 16}, {1, 2, 7, 9, 30, 33}, {5, 5, 6, 8, 24, 40}, {0, 32, 48, 56, 60, 61}, {3, 4, 8, 16, 32, 64}, {7, 7, 7, 7, 7, 7}} {
		var ranges []*Range
		for i := range len(cuts) - 1 {
			ranges = append(ranges, grown(t, l, cuts[i], cuts[i+1]))
		}
		begin, end := cuts[0], cuts[len(cuts)-1]
		count := 0
		mergings(t, ranges, func(r *Range) {
			hold(t, r, begin, end, subs(t, l, begin, end)...)
			count++
		})
		if count != 24 {
			t.Error(cuts, count)
		}
	}
}

func TestWhatIsLoadedIsTheRange(t *testing.T) {
	l := someLeaves(19, most)
	for begin := range most + 1 {
		for end := begin; end <= most; end++ {
			r := grown(t, l, begin, end)
			o := loaded(t, r.Bytes())
			_, d := gathered(r)
			hold(t, o, begin, end, d...)
			if !bytes.Equal(o.Bytes(), r.Bytes()) {
				t.Fatal(begin, end)
			}
			if begin == 0 && root(t, o) != root(t, r) {
				t.Fatal("root", end)
			}
		}
	}
}

// Rule 1

func TestRangesThatNoCallMade(t *testing.T) {
	for _, r := range []*Range{nil, {}} {
		for _, e := range []api.Errno{
			r.Append(api.Digest{1}), r.AppendNode(3, api.Digest{1}), r.AppendNode(-1, api.Digest{}), r.AppendNode(49, api.Digest{}),
			r.Merge(fresh(t, 0)), r.Merge(fresh(t, 5)), r.Merge(r), r.Merge(nil), r.Merge(&Range{}),
		} {
			if e != api.ErrNil {
				t.Error(e)
			}
		}
		if d, e := r.Root(); d != (api.Digest{}) || e != api.ErrNil {
			t.Error(d, e)
		}
		if r.Span() != (api.Span{}) || r.Len() != 0 || r.Clone() != nil || r.Bytes() != nil {
			t.Error("it answers something")
		}
		if n, d := gathered(r); n != nil || d != nil {
			t.Error("it has parts", n, d)
		}
		if r != nil && (r.made || r.span != (api.Span{}) || r.parts != nil) {
			t.Error("it has changed")
		}
	}
}

func TestRangesThatNoCallMadeAreNotMerged(t *testing.T) {
	l := someLeaves(20, 4)
	for _, o := range []*Range{nil, {}} {
		for end := range 4 {
			r := grown(t, l, 0, end)
			stays(t, r, api.ErrNil, func() api.Errno { return r.Merge(o) })
		}
	}
}

// Rule 4

// inMidst tells bytes with room ahead and behind that must stay as it is.
func inMidst(b []byte) (whole, part []byte) {
	whole = slices.Concat([]byte{7, 7, 7}, b, bytes.Repeat([]byte{9}, 200))
	return whole, whole[3 : 3+len(b)]
}

func TestWhatIsHandedInStaysAndIsNotKept(t *testing.T) {
	l := someLeaves(21, 20)
	for end := range 20 {
		b := grown(t, l, 0, end).Bytes()
		whole, part := inMidst(b)
		was := slices.Clone(whole)
		r := loaded(t, part)
		for i := range 9 {
			put(t, r, 0, l[i])
		}
		r = loaded(t, part)
		r.Root()
		if !bytes.Equal(whole, was) {
			t.Fatal(end)
		}
		for i := range whole {
			whole[i] ^= 255
		}
		if !bytes.Equal(r.Bytes(), b) {
			t.Fatal(end, "the bytes are kept")
		}
	}
}

func TestWhatIsBehindTheLengthIsNotRead(t *testing.T) {
	b := grown(t, someLeaves(22, 7), 0, 7).Bytes()
	for n := range b {
		refused(t, "the rest stands in the spare room", b[:n:len(b)])
	}
	_, part := inMidst(b)
	if !bytes.Equal(loaded(t, part).Bytes(), b) {
		t.Error("the spare room was read")
	}
}

func TestBytesAreNewMemory(t *testing.T) {
	l := someLeaves(23, 20)
	for end := range 20 {
		r := grown(t, l, 0, end)
		want := slices.Clone(r.Bytes())
		one, two := r.Bytes(), r.Bytes()
		for _, c := range one[len(one):cap(one)] {
			if c != 0 {
				t.Fatal(end, "hands out", c)
			}
		}
		one = one[:cap(one)]
		for i := range one {
			one[i] ^= 255
		}
		if !bytes.Equal(two, want) || !bytes.Equal(r.Bytes(), want) {
			t.Fatal(end)
		}
	}
}

// Rule 8

func TestPartsMayBeLeftAnywhere(t *testing.T) {
	r := steep(t)
	all := r.All()
	want, digests := gathered(r)
	for stop := range want {
		seen := 0
		all(func(n api.Node, d api.Digest) bool {
			if n != want[seen] || d != digests[seen] {
				t.Fatal(n, d)
			}
			seen++
			return seen <= stop
		})
		if seen != stop+1 {
			t.Error(stop, seen)
		}
	}
	hold(t, r, 1, api.MaxSize-1, digests...)
}

func TestPartsAreThoseAsTheRangeBegins(t *testing.T) {
	l := someLeaves(24, 20)
	for begin := range 5 {
		r := grown(t, l, begin, 7)
		all := r.All()
		want := subs(t, l, begin, 7)
		for i := 7; i < 16; {
			var got []api.Digest
			for _, d := range all {
				got = append(got, d)
				put(t, r, 0, l[i])
				i++
			}
			if !slices.Equal(got, want) {
				t.Fatal(begin, i)
			}
			want = subs(t, l, begin, i)
			hold(t, r, begin, i, want...)
		}
	}
}

func TestPartsOfARangeThatIsMadeLater(t *testing.T) {
	r := fresh(t, 0)
	all := r.All()
	for range all {
		t.Error("it is empty")
	}
	put(t, r, 2, api.Digest{1})
	count := 0
	for n, d := range all {
		if n != (api.Node{Level: 2}) || d != (api.Digest{1}) {
			t.Error(n, d)
		}
		count++
	}
	if count != 1 {
		t.Error(count)
	}
}
