package node

import (
	"crypto/sha256"
	"iter"
	"math"
	"math/big"
	"math/bits"
	"slices"
	"testing"

	"coppice/api"
	"coppice/tree"
)

// most is the size up to which all trees and spans are gone through.
const most = 40

// edges tells numbers at which something could go wrong: those about the powers of two, MaxSize and the ends of the range.
func edges() []int {
	out := []int{math.MinInt, math.MinInt + 1, -api.MaxSize, -2, 0, 3, math.MaxInt - 1}
	for level := range 63 {
		out = append(out, 1<<level-1, 1<<level, 1<<level+1)
	}
	out = append(out, math.MaxInt, -1)
	slices.Sort(out)
	return slices.Compact(out)
}

// sizes tells sizes of trees, small and great, up to MaxSize.
func sizes() []int {
	var out []int
	for _, n := range edges() {
		if n >= 1 && n <= api.MaxSize {
			out = append(out, n)
		}
	}
	return append(out, 0b1011, 1000, 65537*257, 123456789012, 0x5555_5555_5555, 0xaaaa_aaaa_aaaa, 0xcafe_f00d_d00d, api.MaxSize-12345)
}

// placesIn tells numbers from 0 to n - 1, those at the ends and about the powers of two among them.
func placesIn(n int) []int {
	out := []int{0, n - 1, n / 2, n / 3, n - 1 - n/7}
	for at := 1; at < n; at *= 2 {
		out = append(out, at-1, at, n-at)
	}
	slices.Sort(out)
	return slices.Compact(out)
}

// someLeaves tells n digests, all unlike.
func someLeaves(n int) []api.Digest {
	l := make([]api.Digest, n)
	for i := range l {
		l[i] = sha256.Sum256([]byte{byte(i >> 8), byte(i)})
	}
	return l
}

func leavesOf(t *testing.T, n api.Node) api.Span {
	t.Helper()
	s, e := Leaves(n)
	if e != api.OK {
		t.Fatal("leaves", n, e)
	}
	return s
}

func partsOf(t *testing.T, begin, end int) []api.Node {
	t.Helper()
	l, e := Parts(api.Span{Begin: begin, End: end})
	if e != api.OK {
		t.Fatal("parts", begin, end, e)
	}
	return l
}

func spans(t *testing.T, i, n int) []api.Span {
	t.Helper()
	l, e := Spans(i, n)
	if e != api.OK {
		t.Fatal("spans", i, n, e)
	}
	return l
}

func steps(t *testing.T, m, n int) []api.Span {
	t.Helper()
	l, e := Steps(m, n)
	if e != api.OK {
		t.Fatal("steps", m, n, e)
	}
	return l
}

// mayBe tells whether a node may be, reckoned by whole numbers without a bound.
func mayBe(n api.Node) bool {
	if n.Level < 0 || n.Level > 48 || n.Index < 0 {
		return false
	}
	end := new(big.Int).Add(big.NewInt(int64(n.Index)), big.NewInt(1))
	end.Lsh(end, uint(n.Level))
	return end.Cmp(big.NewInt(api.MaxSize)) <= 0
}

// someNodes tells nodes that may be and others: each level about its edges, with each index about its own.
func someNodes() []api.Node {
	levels := []int{math.MinInt, -64, -1, 62, 63, 64, 65, 1 << 32, 1<<32 + 1, math.MaxInt}
	for level := range 51 {
		levels = append(levels, level)
	}
	var out []api.Node
	for _, level := range levels {
		for _, index := range edges() {
			out = append(out, api.Node{Level: level, Index: index})
		}
	}
	return out
}

// P6.1

func TestValidAtTheEdges(t *testing.T) {
	for _, x := range []struct {
		n    api.Node
		want bool
	}{
		{api.Node{}, true}, {api.Node{Index: api.MaxSize - 1}, true}, {api.Node{Index: api.MaxSize}, false},
		{api.Node{Index: -1}, false}, {api.Node{Level: -1}, false}, {api.Node{Level: -1, Index: -1}, false},
		{api.Node{Level: 47, Index: 1}, true}, {api.Node{Level: 47, Index: 2}, false},
		{api.Node{Level: 48}, true}, {api.Node{Level: 48, Index: 1}, false}, {api.Node{Level: 48, Index: -1}, false},
		{api.Node{Level: 49}, false}, {api.Node{Level: 64}, false}, {api.Node{Level: math.MaxInt}, false},
		{api.Node{Level: 24, Index: 1<<24 - 1}, true}, {api.Node{Level: 24, Index: 1 << 24}, false},
		{api.Node{Level: 4, Index: 1 << 60}, false}, {api.Node{Level: 1, Index: math.MaxInt}, false},
	} {
		if Valid(x.n) != x.want {
			t.Error(x.n, !x.want)
		}
	}
}

func TestValidOfManyNodes(t *testing.T) {
	good := 0
	for _, n := range someNodes() {
		if Valid(n) != mayBe(n) {
			t.Fatal(n, Valid(n))
		}
		if Valid(n) {
			good++
		}
	}
	if good < 1000 {
		t.Error("too few that may be:", good)
	}
}

func TestLeavesOfManyNodes(t *testing.T) {
	for _, n := range someNodes() {
		s, e := Leaves(n)
		if !mayBe(n) {
			if e != api.ErrArg || s != (api.Span{}) {
				t.Fatal(n, s, e)
			}
			continue
		}
		want := api.Span{Begin: n.Index * (1 << n.Level), End: n.Index*(1<<n.Level) + 1<<n.Level}
		if e != api.OK || s != want {
			t.Fatal(n, s, e)
		}
	}
}

func TestLeavesOfFewNodes(t *testing.T) {
	for _, x := range []struct {
		n    api.Node
		want api.Span
	}{
		{api.Node{}, api.Span{End: 1}}, {api.Node{Index: 7}, api.Span{Begin: 7, End: 8}},
		{api.Node{Level: 3, Index: 2}, api.Span{Begin: 16, End: 24}},
		{api.Node{Level: 48}, api.Span{End: api.MaxSize}},
		{api.Node{Level: 47, Index: 1}, api.Span{Begin: api.MaxSize / 2, End: api.MaxSize}},
		{api.Node{Index: api.MaxSize - 1}, api.Span{Begin: api.MaxSize - 1, End: api.MaxSize}},
	} {
		if s := leavesOf(t, x.n); s != x.want {
			t.Error(x.n, s)
		}
	}
}

func TestParentAndSiblingOfFewNodes(t *testing.T) {
	for _, x := range []struct{ n, parent, sibling api.Node }{
		{api.Node{}, api.Node{Level: 1}, api.Node{Index: 1}},
		{api.Node{Index: 1}, api.Node{Level: 1}, api.Node{}},
		{api.Node{Level: 3, Index: 5}, api.Node{Level: 4, Index: 2}, api.Node{Level: 3, Index: 4}},
		{api.Node{Level: 3, Index: 6}, api.Node{Level: 4, Index: 3}, api.Node{Level: 3, Index: 7}},
		{api.Node{Index: api.MaxSize - 1}, api.Node{Level: 1, Index: api.MaxSize/2 - 1}, api.Node{Index: api.MaxSize - 2}},
		{api.Node{Level: 47}, api.Node{Level: 48}, api.Node{Level: 47, Index: 1}},
		{api.Node{Level: 47, Index: 1}, api.Node{Level: 48}, api.Node{Level: 47}},
	} {
		if p, e := Parent(x.n); p != x.parent || e != api.OK {
			t.Error("parent", x.n, p, e)
		}
		if s, e := Sibling(x.n); s != x.sibling || e != api.OK {
			t.Error("sibling", x.n, s, e)
		}
	}
}

// wantedOf tells the error that Parent and Sibling must answer.
func wantedOf(n api.Node) api.Errno {
	if !mayBe(n) {
		return api.ErrArg
	}
	if n.Level == 48 {
		return api.ErrRange
	}
	return api.OK
}

func TestParentAndSiblingOfManyNodes(t *testing.T) {
	for _, n := range someNodes() {
		want := wantedOf(n)
		p, pe := Parent(n)
		s, se := Sibling(n)
		if pe != want || se != want {
			t.Fatal(n, pe, se)
		}
		if want != api.OK {
			if p != (api.Node{}) || s != (api.Node{}) {
				t.Fatal(n, p, s)
			}
			continue
		}
		if p != (api.Node{Level: n.Level + 1, Index: n.Index / 2}) {
			t.Fatal(n, p)
		}
		if up, e := Parent(s); e != api.OK || up != p || s == n || s.Level != n.Level {
			t.Fatal(n, s, up, e)
		}
	}
}

func TestTheTopAndBeyond(t *testing.T) {
	for _, x := range []struct {
		n    api.Node
		want api.Errno
	}{
		{api.Node{Level: 48}, api.ErrRange}, {api.Node{Level: 48, Index: 1}, api.ErrArg}, {api.Node{Level: 48, Index: -1}, api.ErrArg},
		{api.Node{Level: 49}, api.ErrArg}, {api.Node{Level: -1}, api.ErrArg}, {api.Node{Index: api.MaxSize}, api.ErrArg},
	} {
		if p, e := Parent(x.n); e != x.want || p != (api.Node{}) {
			t.Error("parent", x.n, p, e)
		}
		if s, e := Sibling(x.n); e != x.want || s != (api.Node{}) {
			t.Error("sibling", x.n, s, e)
		}
	}
}

// inside tells whether all leaves of n are leaves of o, both of which may be.
func inside(n, o api.Node) bool {
	return o.Index*(1<<o.Level) <= n.Index*(1<<n.Level) && (n.Index+1)*(1<<n.Level) <= (o.Index+1)*(1<<o.Level)
}

func TestWithinOfFewLeaves(t *testing.T) {
	var all []api.Node
	for level := range 6 {
		for index := range 32 >> level {
			all = append(all, api.Node{Level: level, Index: index})
		}
	}
	for _, n := range all {
		for _, o := range all {
			if Within(n, o) != inside(n, o) {
				t.Error(n, o, Within(n, o))
			}
		}
	}
}

func TestWithinOfManyNodes(t *testing.T) {
	var all []api.Node
	for i, n := range someNodes() {
		if mayBe(n) && i%5 == 0 || i%67 == 0 {
			all = append(all, n)
		}
	}
	yes := 0
	for _, n := range all {
		for _, o := range all {
			want := mayBe(n) && mayBe(o) && inside(n, o)
			if Within(n, o) != want {
				t.Fatal(n, o, !want)
			}
			if want && n != o {
				yes++
			}
		}
	}
	if yes < 1000 {
		t.Error("too few that lie within another:", yes)
	}
}

func TestWithinAtTheEdges(t *testing.T) {
	for _, x := range []struct {
		n, o api.Node
		want bool
	}{
		{api.Node{}, api.Node{}, true}, {api.Node{}, api.Node{Level: 48}, true}, {api.Node{Level: 48}, api.Node{}, false},
		{api.Node{Level: 48}, api.Node{Level: 48}, true}, {api.Node{Index: api.MaxSize - 1}, api.Node{Level: 48}, true},
		{api.Node{Index: api.MaxSize - 1}, api.Node{Level: 47, Index: 1}, true}, {api.Node{Index: api.MaxSize - 1}, api.Node{Level: 47}, false},
		{api.Node{Index: api.MaxSize}, api.Node{Level: 48}, false}, {api.Node{Index: api.MaxSize}, api.Node{Index: api.MaxSize}, false},
		{api.Node{}, api.Node{Level: 49}, false}, {api.Node{Level: 49}, api.Node{Level: 49}, false},
		{api.Node{Level: -1}, api.Node{}, false}, {api.Node{}, api.Node{Level: -1}, false}, {api.Node{Level: -1}, api.Node{Level: -1}, false},
		{api.Node{Index: -1}, api.Node{Level: 48}, false}, {api.Node{Index: -1}, api.Node{Index: -1}, false}, {api.Node{Index: -1}, api.Node{Level: 1, Index: -1}, false},
		{api.Node{Index: 1}, api.Node{Level: 1}, true}, {api.Node{Index: 2}, api.Node{Level: 1}, false},
	} {
		if Within(x.n, x.o) != x.want {
			t.Error(x.n, x.o, !x.want)
		}
	}
}

// P6.2

// byTrying tells a span's parts by the words of the chapter: from the greatest node down, the first that begins there and does not go beyond the end.
func byTrying(s api.Span) []api.Node {
	var out []api.Node
	for at := s.Begin; at < s.End; {
		level := 48
		for at%(1<<level) != 0 || at+1<<level > s.End {
			level--
		}
		out = append(out, api.Node{Level: level, Index: at / (1 << level)})
		at += 1 << level
	}
	return out
}

func TestPartsOfFewSpans(t *testing.T) {
	for _, x := range []struct {
		s    api.Span
		want []api.Node
	}{
		{api.Span{}, nil}, {api.Span{Begin: 5, End: 5}, nil}, {api.Span{Begin: api.MaxSize, End: api.MaxSize}, nil},
		{api.Span{End: 1}, []api.Node{{}}},
		{api.Span{End: 7}, []api.Node{{Level: 2}, {Level: 1, Index: 2}, {Index: 6}}},
		{api.Span{End: 8}, []api.Node{{Level: 3}}},
		{api.Span{Begin: 1, End: 8}, []api.Node{{Index: 1}, {Level: 1, Index: 1}, {Level: 2, Index: 1}}},
		{api.Span{Begin: 3, End: 9}, []api.Node{{Index: 3}, {Level: 2, Index: 1}, {Index: 8}}},
		{api.Span{Begin: 2, End: 6}, []api.Node{{Level: 1, Index: 1}, {Level: 1, Index: 2}}},
		{api.Span{End: api.MaxSize}, []api.Node{{Level: 48}}},
		{api.Span{Begin: api.MaxSize / 2, End: api.MaxSize}, []api.Node{{Level: 47, Index: 1}}},
		{api.Span{Begin: api.MaxSize - 1, End: api.MaxSize}, []api.Node{{Index: api.MaxSize - 1}}},
		{api.Span{Begin: api.MaxSize - 3, End: api.MaxSize}, []api.Node{{Index: api.MaxSize - 3}, {Level: 1, Index: api.MaxSize/2 - 1}}},
	} {
		if l := partsOf(t, x.s.Begin, x.s.End); !slices.Equal(l, x.want) {
			t.Error(x.s, l)
		}
	}
}

func TestPartsOfEverySmallSpan(t *testing.T) {
	for end := range most*2 + 1 {
		for begin := range end + 1 {
			if l := partsOf(t, begin, end); !slices.Equal(l, byTrying(api.Span{Begin: begin, End: end})) {
				t.Fatal(begin, end, l)
			}
		}
	}
}

func TestPartsOfManySpans(t *testing.T) {
	numbers := append(edges(), sizes()...)
	for _, begin := range numbers {
		for _, end := range numbers {
			s := api.Span{Begin: begin, End: end}
			l, e := Parts(s)
			if 0 <= begin && begin <= end && end <= api.MaxSize {
				if e != api.OK || !slices.Equal(l, byTrying(s)) {
					t.Fatal(s, l, e)
				}
			} else if e != api.ErrRange || l != nil {
				t.Fatal(s, l, e)
			}
		}
	}
}

func TestPartsOfNoSpan(t *testing.T) {
	for _, s := range []api.Span{
		{Begin: 5, End: 4}, {Begin: -1, End: 4}, {Begin: -1, End: -1}, {Begin: -2, End: -1}, {Begin: 1, End: -1}, {End: -1},
		{End: api.MaxSize + 1}, {Begin: api.MaxSize, End: api.MaxSize + 1}, {Begin: api.MaxSize + 1, End: api.MaxSize + 1},
		{Begin: math.MinInt, End: math.MaxInt}, {Begin: math.MaxInt, End: math.MinInt}, {Begin: math.MaxInt, End: math.MaxInt}, {Begin: math.MinInt, End: math.MinInt},
	} {
		if l, e := Parts(s); e != api.ErrRange || l != nil {
			t.Error(s, l, e)
		}
	}
}

// P6.3

// roots tells the Root of each span's leaves.
func roots(t *testing.T, l []api.Digest, of []api.Span) []api.Digest {
	t.Helper()
	var out []api.Digest
	for _, s := range of {
		d, e := tree.Sub(l, s)
		if e != api.OK {
			t.Fatal(s, len(l), e)
		}
		out = append(out, d)
	}
	return out
}

// besides tells the spans that stand beside a node and those above it in a tree of n leaves, from below: on each level the neighbour, cut off at n; the last one of a level may have none.
func besides(level, index, n int) []api.Span {
	var out []api.Span
	for ; index > 0 || (n-1)>>level > 0; index, level = index/2, level+1 {
		beside := index ^ 1
		if begin := beside << level; begin < n {
			out = append(out, api.Span{Begin: begin, End: min(n, (beside+1)<<level)})
		}
	}
	return out
}

func TestSpansOfFewLeaves(t *testing.T) {
	for _, x := range []struct {
		i, n int
		want []api.Span
	}{
		{0, 1, nil},
		{0, 2, []api.Span{{Begin: 1, End: 2}}}, {1, 2, []api.Span{{End: 1}}},
		{0, 3, []api.Span{{Begin: 1, End: 2}, {Begin: 2, End: 3}}}, {2, 3, []api.Span{{End: 2}}},
		{2, 5, []api.Span{{Begin: 3, End: 4}, {End: 2}, {Begin: 4, End: 5}}}, {4, 5, []api.Span{{End: 4}}},
		{3, 7, []api.Span{{Begin: 2, End: 3}, {End: 2}, {Begin: 4, End: 7}}},
		{4, 7, []api.Span{{Begin: 5, End: 6}, {Begin: 6, End: 7}, {End: 4}}}, {6, 7, []api.Span{{Begin: 4, End: 6}, {End: 4}}},
		{5, 8, []api.Span{{Begin: 4, End: 5}, {Begin: 6, End: 8}, {End: 4}}},
	} {
		if l := spans(t, x.i, x.n); !slices.Equal(l, x.want) {
			t.Error(x.i, x.n, l)
		}
	}
}

func TestSpansAreThoseOfTheProofs(t *testing.T) {
	l := someLeaves(130)
	for _, n := range append(upTo(most), 63, 64, 65, 127, 128, 129, 130) {
		for i := range n {
			want, e := tree.Inclusion(l, i, n)
			if e != api.OK {
				t.Fatal(i, n, e)
			}
			if got := roots(t, l, spans(t, i, n)); !slices.Equal(got, want) {
				t.Fatal(i, n, spans(t, i, n))
			}
		}
	}
}

func TestSpansOfGreatTrees(t *testing.T) {
	for _, n := range sizes() {
		for _, i := range placesIn(n) {
			if l := spans(t, i, n); !slices.Equal(l, besides(0, i, n)) {
				t.Fatal(i, n, l)
			}
		}
	}
	if l := spans(t, api.MaxSize-1, api.MaxSize); len(l) != 48 || l[47] != (api.Span{End: api.MaxSize / 2}) {
		t.Error(l)
	}
	if l := spans(t, api.MaxSize/2, api.MaxSize/2+1); !slices.Equal(l, []api.Span{{End: api.MaxSize / 2}}) {
		t.Error(l)
	}
}

func TestSpansOutsideTheRange(t *testing.T) {
	for _, i := range edges() {
		for _, n := range edges() {
			good := 0 <= i && i < n && n <= api.MaxSize
			l, e := Spans(i, n)
			if good && e != api.OK || !good && (e != api.ErrRange || l != nil) {
				t.Fatal(i, n, l, e)
			}
		}
	}
}

// P6.4

// stepsFromBelow tells the spans of a consistency proof: the greatest node that ends at m, left out if it is all of m, and what stands beside it.
func stepsFromBelow(m, n int) []api.Span {
	if m == n {
		return nil
	}
	level := bits.TrailingZeros(uint(m))
	out := []api.Span{{Begin: m - 1<<level, End: m}}
	if m == 1<<level {
		out = nil
	}
	return append(out, besides(level, (m-1)>>level, n)...)
}

func TestStepsOfFewLeaves(t *testing.T) {
	for _, x := range []struct {
		m, n int
		want []api.Span
	}{
		{1, 1, nil}, {2, 2, nil}, {3, 3, nil}, {7, 7, nil},
		{1, 2, []api.Span{{Begin: 1, End: 2}}}, {1, 3, []api.Span{{Begin: 1, End: 2}, {Begin: 2, End: 3}}}, {2, 3, []api.Span{{Begin: 2, End: 3}}},
		{2, 4, []api.Span{{Begin: 2, End: 4}}}, {3, 4, []api.Span{{Begin: 2, End: 3}, {Begin: 3, End: 4}, {End: 2}}},
		{3, 7, []api.Span{{Begin: 2, End: 3}, {Begin: 3, End: 4}, {End: 2}, {Begin: 4, End: 7}}}, {4, 7, []api.Span{{Begin: 4, End: 7}}},
		{5, 7, []api.Span{{Begin: 4, End: 5}, {Begin: 5, End: 6}, {Begin: 6, End: 7}, {End: 4}}},
		{6, 7, []api.Span{{Begin: 4, End: 6}, {Begin: 6, End: 7}, {End: 4}}}, {6, 8, []api.Span{{Begin: 4, End: 6}, {Begin: 6, End: 8}, {End: 4}}},
	} {
		if l := steps(t, x.m, x.n); !slices.Equal(l, x.want) {
			t.Error(x.m, x.n, l)
		}
	}
}

func TestStepsAreThoseOfTheProofs(t *testing.T) {
	l := someLeaves(130)
	for _, n := range append(upTo(most), 63, 64, 65, 127, 128, 129, 130) {
		for m := 1; m <= n; m++ {
			want, e := tree.Consistency(l, m, n)
			if e != api.OK {
				t.Fatal(m, n, e)
			}
			if got := roots(t, l, steps(t, m, n)); !slices.Equal(got, want) {
				t.Fatal(m, n, steps(t, m, n))
			}
		}
	}
}

func TestStepsOfGreatTrees(t *testing.T) {
	for _, n := range sizes() {
		for _, last := range placesIn(n) {
			if l := steps(t, last+1, n); !slices.Equal(l, stepsFromBelow(last+1, n)) {
				t.Fatal(last+1, n, l)
			}
		}
	}
	if l := steps(t, api.MaxSize-1, api.MaxSize); len(l) != 49 || l[0] != (api.Span{Begin: api.MaxSize - 2, End: api.MaxSize - 1}) {
		t.Error(l)
	}
	if l := steps(t, api.MaxSize/2, api.MaxSize); !slices.Equal(l, []api.Span{{Begin: api.MaxSize / 2, End: api.MaxSize}}) {
		t.Error(l)
	}
	if l := steps(t, api.MaxSize, api.MaxSize); len(l) != 0 {
		t.Error(l)
	}
}

func TestStepsOutsideTheRange(t *testing.T) {
	for _, m := range edges() {
		for _, n := range edges() {
			good := 1 <= m && m <= n && n <= api.MaxSize
			l, e := Steps(m, n)
			if good && e != api.OK || !good && (e != api.ErrRange || l != nil) {
				t.Fatal(m, n, l, e)
			}
		}
	}
}

func upTo(n int) []int {
	var out []int
	for i := range n {
		out = append(out, i+1)
	}
	return out
}

// P6.5

func TestUpOfFewLeaves(t *testing.T) {
	for _, x := range []struct {
		leaf, level int
		want        []api.Node
	}{
		{5, 2, []api.Node{{Index: 5}, {Level: 1, Index: 2}, {Level: 2, Index: 1}}},
		{5, 0, []api.Node{{Index: 5}}}, {0, 1, []api.Node{{}, {Level: 1}}}, {0, 0, []api.Node{{}}},
		{1, 3, []api.Node{{Index: 1}, {Level: 1}, {Level: 2}, {Level: 3}}},
		{api.MaxSize - 1, 1, []api.Node{{Index: api.MaxSize - 1}, {Level: 1, Index: api.MaxSize/2 - 1}}},
		{5, -1, nil}, {0, -1, nil}, {5, math.MinInt, nil}, {-1, 2, nil}, {-1, -1, nil}, {math.MinInt, 3, nil}, {math.MinInt, math.MaxInt, nil},
		{api.MaxSize, 2, nil}, {api.MaxSize, 0, nil}, {api.MaxSize + 1, 48, nil}, {math.MaxInt, math.MaxInt, nil},
	} {
		if l := slices.Collect(Up(x.leaf, x.level)); !slices.Equal(l, x.want) {
			t.Error(x.leaf, x.level, l)
		}
	}
}

func TestUpOfManyLeaves(t *testing.T) {
	levels := []int{math.MinInt, -1, 48, 49, 50, 63, 64, 65, math.MaxInt - 1, math.MaxInt}
	for level := range 48 {
		levels = append(levels, level)
	}
	for _, leaf := range append(edges(), sizes()...) {
		for _, level := range levels {
			var want []api.Node
			for at := 0; at <= level && mayBe(api.Node{Level: at, Index: leaf / (1 << at)}) && mayBe(api.Node{Index: leaf}); at++ {
				want = append(want, api.Node{Level: at, Index: leaf / (1 << at)})
			}
			if l := slices.Collect(Up(leaf, level)); !slices.Equal(l, want) {
				t.Fatal(leaf, level, l)
			}
		}
	}
}

func TestUpEndsAtTheTop(t *testing.T) {
	for _, level := range []int{48, 49, 100, math.MaxInt} {
		for _, leaf := range []int{0, 1, api.MaxSize / 2, api.MaxSize - 1} {
			l := slices.Collect(Up(leaf, level))
			if len(l) != 49 || l[48] != (api.Node{Level: 48}) {
				t.Error(leaf, level, l)
			}
		}
	}
}

func TestUpIsLeftAnywhereAndGoneThroughAgain(t *testing.T) {
	up := Up(1000, 9)
	whole := slices.Collect(up)
	for stop := range len(whole) {
		var l []api.Node
		for n := range up {
			l = append(l, n)
			if len(l) > stop {
				break
			}
		}
		if !slices.Equal(l, whole[:stop+1]) || !slices.Equal(slices.Collect(up), whole) {
			t.Error(stop, l)
		}
	}
	pairs := 0
	for range up {
		for range up {
			pairs++
		}
	}
	if pairs != 100 {
		t.Error("one within the other:", pairs)
	}
}

// P6.6

// fewest tells with how few nodes each span from begin on can be made, up to the leaf end.
func fewest(begin, end int) []int {
	least := make([]int, end+1)
	for at := begin + 1; at <= end; at++ {
		least[at] = end + 1
		for size := 1; size <= at-begin; size *= 2 {
			if at%size == 0 {
				least[at] = min(least[at], least[at-size]+1)
			}
		}
	}
	return least
}

func TestPartsAreAsFewAsCanBe(t *testing.T) {
	end := most * 3
	for begin := range end {
		least := fewest(begin, end)
		for at := begin; at <= end; at++ {
			if l := partsOf(t, begin, at); len(l) != least[at] {
				t.Fatal(begin, at, l)
			}
		}
	}
}

// manySpans goes through spans, small ones and great.
func manySpans() iter.Seq[api.Span] {
	return func(yield func(api.Span) bool) {
		for end := range most + 1 {
			for begin := range end + 1 {
				if !yield(api.Span{Begin: begin, End: end}) {
					return
				}
			}
		}
		for _, end := range sizes() {
			for _, begin := range placesIn(end) {
				if !yield(api.Span{Begin: begin, End: end}) {
					return
				}
			}
		}
	}
}

func TestPartsStandOneBesideTheOther(t *testing.T) {
	for s := range manySpans() {
		at := s.Begin
		for _, n := range partsOf(t, s.Begin, s.End) {
			p := leavesOf(t, n)
			if p.Begin != at {
				t.Fatal(s, n)
			}
			at = p.End
		}
		if at != s.End {
			t.Fatal(s, at)
		}
	}
}

func TestLevelsOfPartsRiseAndFall(t *testing.T) {
	for s := range manySpans() {
		l := partsOf(t, s.Begin, s.End)
		at := 0
		for at+1 < len(l) && l[at].Level < l[at+1].Level {
			at++
		}
		if at+1 < len(l) && l[at].Level == l[at+1].Level {
			at++
		}
		for at+1 < len(l) && l[at].Level > l[at+1].Level {
			at++
		}
		if at+1 < len(l) {
			t.Fatal(s, l)
		}
	}
}

func TestPartsAreAtMost96(t *testing.T) {
	longest := 0
	for s := range manySpans() {
		longest = max(longest, len(partsOf(t, s.Begin, s.End)))
	}
	if longest > 96 {
		t.Error(longest)
	}
	if l := partsOf(t, 1, api.MaxSize-1); len(l) != 94 || l[46] != (api.Node{Level: 46, Index: 1}) || l[47] != (api.Node{Level: 46, Index: 2}) {
		t.Error(len(l), l)
	}
}

// P6.7

// coverAll fails unless the spans are the first n leaves, each once, and none of them is empty.
func coverAll(t *testing.T, n int, l []api.Span) {
	t.Helper()
	sorted := slices.SortedFunc(slices.Values(l), func(a, b api.Span) int { return a.Begin - b.Begin })
	at := 0
	for _, s := range sorted {
		if s.Begin != at || s.End <= s.Begin {
			t.Fatal(n, l)
		}
		at = s.End
	}
	if at != n {
		t.Fatal(n, l)
	}
}

func TestSpansAndTheLeafAreAllLeaves(t *testing.T) {
	for _, n := range append(upTo(most), sizes()...) {
		for _, i := range placesIn(n) {
			coverAll(t, n, append(spans(t, i, n), api.Span{Begin: i, End: i + 1}))
		}
	}
}

func TestStepsAreAllLeaves(t *testing.T) {
	for _, n := range append(upTo(most), sizes()...) {
		for _, last := range placesIn(n) {
			m := last + 1
			if m == n {
				continue
			}
			l := steps(t, m, n)
			if bits.OnesCount(uint(m)) == 1 {
				l = append(l, api.Span{End: m})
			}
			coverAll(t, n, l)
			if !slices.ContainsFunc(l, func(s api.Span) bool { return s.End == m }) {
				t.Fatal(m, n, l)
			}
		}
	}
}

func TestNoStepFromASizeToItself(t *testing.T) {
	for _, n := range append(upTo(most), sizes()...) {
		if l := steps(t, n, n); len(l) != 0 {
			t.Error(n, l)
		}
	}
}

// P6.8

func TestUpGoesFromWithinToWithin(t *testing.T) {
	for _, leaf := range sizes() {
		var last api.Node
		count := 0
		for n := range Up(leaf-1, 48) {
			if count == 0 && n != (api.Node{Index: leaf - 1}) || count > 0 && !Within(last, n) {
				t.Fatal(leaf-1, last, n)
			}
			last = n
			count++
		}
		if count != 49 {
			t.Error(leaf-1, count)
		}
	}
}

func TestANodeItsSiblingAndTheirParent(t *testing.T) {
	for _, n := range someNodes() {
		if wantedOf(n) != api.OK {
			continue
		}
		p, _ := Parent(n)
		s, _ := Sibling(n)
		if !Valid(p) || !Valid(s) || !Within(n, p) || !Within(s, p) || Within(n, s) || Within(s, n) || Within(p, n) {
			t.Fatal(n, s, p)
		}
		if again, e := Sibling(s); e != api.OK || again != n {
			t.Fatal(n, s, again)
		}
		a, b, both := leavesOf(t, n), leavesOf(t, s), leavesOf(t, p)
		if a.Begin > b.Begin {
			a, b = b, a
		}
		if a.Begin != both.Begin || a.End != b.Begin || b.End != both.End {
			t.Fatal(n, a, b, both)
		}
	}
}

// Rule 4

// isNew fails unless two answers of one call share no memory, and nothing stands in their spare room.
func isNew[T comparable](t *testing.T, told func() []T) {
	t.Helper()
	one, two := told(), told()
	want := slices.Clone(two)
	var none T
	for _, x := range one[len(one):cap(one)] {
		if x != none {
			t.Fatal("something stands in the spare room", one)
		}
	}
	clear(one[:cap(one)])
	if !slices.Equal(two, want) || !slices.Equal(told(), want) {
		t.Fatal("what was handed out is shared", want)
	}
}

func TestWhatIsHandedOutIsNew(t *testing.T) {
	for n := 1; n <= 20; n++ {
		for i := range n {
			isNew(t, func() []api.Node { return partsOf(t, i, n) })
			isNew(t, func() []api.Span { return spans(t, i, n) })
			isNew(t, func() []api.Span { return steps(t, i+1, n) })
		}
	}
}
