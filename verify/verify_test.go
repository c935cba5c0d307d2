package verify

import (
	"crypto/sha256"
	"encoding/binary"
	"math"
	"math/bits"
	"slices"
	"testing"

	"coppice/api"
	"coppice/tree"
)

// most is the size up to which all trees, all their leaves and all pairs of their sizes are gone through.
const most = 48

// edges tells numbers at which something could go wrong: those about the powers of two, MaxSize and the ends of the range.
func edges() []int {
	out := []int{math.MinInt, math.MinInt + 1, -api.MaxSize, -2, -1, 0, math.MaxInt - 1, math.MaxInt}
	for level := range 63 {
		out = append(out, 1<<level-1, 1<<level, 1<<level+1)
	}
	slices.Sort(out)
	return slices.Compact(out)
}

// sizes tells sizes of trees, small and great, up to MaxSize.
func sizes() []int {
	var out []int
	for _, n := range edges() {
		if n >= 1 && n <= api.MaxSize {
			out = append(out, n)
		}
	}
	return append(out, 0b1011, 1000, 65537*257, 123456789012, 0x5555_5555_5555, 0xaaaa_aaaa_aaaa, 0xcafe_f00d_d00d, api.MaxSize-12345)
}

// placesIn tells numbers from 0 to n - 1, those at the ends and about the powers of two among them.
func placesIn(n int) []int {
	out := []int{0, n - 1, n / 2, n / 3, n - 1 - n/7}
	for at := 1; at < n; at *= 2 {
		out = append(out, at-1, at, n-at)
	}
	slices.Sort(out)
	return slices.Compact(out)
}

// someDigests tells n digests, all unlike, others for each kind.
func someDigests(kind byte, n int) []api.Digest {
	l := make([]api.Digest, n)
	for i := range l {
		l[i] = sha256.Sum256(binary.BigEndian.AppendUint32([]byte{kind}, uint32(i)))
	}
	return l
}

// node tells a node's digest by the library's hash.
func node(l, r api.Digest) api.Digest {
	return sha256.Sum256(slices.Concat([]byte{1}, l[:], r[:]))
}

// split tells the greatest power of two below n, by trying.
func split(n int) int {
	k := 1
	for k < n-k {
		k *= 2
	}
	return k
}

// lengthByWords tells Length by the words of its definition.
func lengthByWords(i, n int) int {
	if n == 1 {
		return 0
	}
	k := split(n)
	if i < k {
		return 1 + lengthByWords(i, k)
	}
	return 1 + lengthByWords(i-k, n-k)
}

// rootByWords tells Root by the words of its definition.
func rootByWords(leaf api.Digest, i, n int, path []api.Digest) api.Digest {
	if n == 1 {
		return leaf
	}
	k, last := split(n), len(path)-1
	if i < k {
		return node(rootByWords(leaf, i, k, path[:last]), path[last])
	}
	return node(path[last], rootByWords(leaf, i-k, n-k, path[:last]))
}

// belowByWords tells the number below of a part, by its words.
func belowByWords(m, n int, fromNought bool) int {
	switch k := split(n); {
	case m == n && fromNought:
		return 0
	case m == n:
		return 1
	case m <= k:
		return 1 + belowByWords(m, k, fromNought)
	default:
		return 1 + belowByWords(m-k, n-k, false)
	}
}

// rfcRoot tells the root by the way from below of RFC 9162, 2.1.3.2; false, if the path has not the digests that it must have.
func rfcRoot(leaf api.Digest, i, n int, path []api.Digest) (api.Digest, bool) {
	fn, sn, r := i, n-1, leaf
	for _, p := range path {
		if sn == 0 {
			return api.Digest{}, false
		}
		if fn&1 == 1 || fn == sn {
			r = node(p, r)
			for fn&1 == 0 && fn != 0 {
				fn, sn = fn>>1, sn>>1
			}
		} else {
			r = node(r, p)
		}
		fn, sn = fn>>1, sn>>1
	}
	return r, sn == 0
}

// rfcRoots tells both roots, of m below n, by the way from below of RFC 9162, 2.1.4.2.
func rfcRoots(first api.Digest, m, n int, path []api.Digest) (older, newer api.Digest, ok bool) {
	if m&(m-1) == 0 {
		path = slices.Concat([]api.Digest{first}, path)
	}
	if len(path) == 0 {
		return api.Digest{}, api.Digest{}, false
	}
	fn, sn := m-1, n-1
	for fn&1 == 1 {
		fn, sn = fn>>1, sn>>1
	}
	fr, sr := path[0], path[0]
	for _, c := range path[1:] {
		if sn == 0 {
			return api.Digest{}, api.Digest{}, false
		}
		if fn&1 == 1 || fn == sn {
			fr, sr = node(c, fr), node(c, sr)
			for fn&1 == 0 && fn != 0 {
				fn, sn = fn>>1, sn>>1
			}
		} else {
			sr = node(sr, c)
		}
		fn, sn = fn>>1, sn>>1
	}
	return fr, sr, sn == 0
}

func length(t *testing.T, i, n int) int {
	t.Helper()
	x, e := Length(i, n)
	if e != api.OK {
		t.Fatal("length", i, n, e)
	}
	return x
}

func steps(t *testing.T, m, n int) int {
	t.Helper()
	x, e := Steps(m, n)
	if e != api.OK {
		t.Fatal("steps", m, n, e)
	}
	return x
}

func root(t *testing.T, leaf api.Digest, i, n int, path []api.Digest) api.Digest {
	t.Helper()
	d, e := Root(leaf, i, n, path)
	if e != api.OK {
		t.Fatal("root", i, n, len(path), e)
	}
	return d
}

func roots(t *testing.T, first api.Digest, m, n int, path []api.Digest) (older, newer api.Digest) {
	t.Helper()
	older, newer, e := Roots(first, m, n, path)
	if e != api.OK {
		t.Fatal("roots", m, n, len(path), e)
	}
	return older, newer
}

// inclusion tells the tree's own proof.
func inclusion(t *testing.T, l []api.Digest, i, n int) []api.Digest {
	t.Helper()
	path, e := tree.Inclusion(l, i, n)
	if e != api.OK {
		t.Fatal("inclusion", i, n, e)
	}
	return path
}

// consistency tells the tree's own proof.
func consistency(t *testing.T, l []api.Digest, m, n int) []api.Digest {
	t.Helper()
	path, e := tree.Consistency(l, m, n)
	if e != api.OK {
		t.Fatal("consistency", m, n, e)
	}
	return path
}

// upTo tells the numbers from 1 to n.
func upTo(n int) []int {
	var out []int
	for i := range n {
		out = append(out, i+1)
	}
	return out
}

// changed tells the path with one bit of its digest at that place turned round.
func changed(path []api.Digest, at, bit int) []api.Digest {
	out := slices.Clone(path)
	out[at][bit/8] ^= 1 << (bit % 8)
	return out
}

// wrongLengths tells beginnings of a long path that have another number of digests than want, from none to far too many.
func wrongLengths(many []api.Digest, want int) [][]api.Digest {
	var out [][]api.Digest
	for _, n := range []int{0, 1, want - 2, want - 1, want + 1, want + 2, 2*want + 1, 48, 49, 50, 64, api.MaxProof, api.MaxProof + 1, 256, 256 + want, len(many)} {
		if n >= 0 && n <= len(many) && n != want {
			out = append(out, many[:n])
		}
	}
	if want != 0 {
		out = append(out, nil)
	}
	return out
}

// P7.1

func TestLengthOfFewLeaves(t *testing.T) {
	for _, x := range []struct{ i, n, want int }{
		{0, 1, 0}, {0, 2, 1}, {1, 2, 1}, {0, 3, 2}, {1, 3, 2}, {2, 3, 1}, {0, 4, 2}, {3, 4, 2},
		{2, 5, 3}, {4, 5, 1}, {4, 6, 2}, {5, 6, 2}, {4, 7, 3}, {6, 7, 2}, {7, 8, 3}, {8, 9, 1}, {0, 9, 4},
	} {
		if got := length(t, x.i, x.n); got != x.want {
			t.Error(x, got)
		}
	}
}

func TestLengthByItsWords(t *testing.T) {
	for n := 1; n <= 300; n++ {
		for i := range n {
			if got := length(t, i, n); got != lengthByWords(i, n) {
				t.Fatal(i, n, got)
			}
		}
	}
	for _, n := range sizes() {
		for _, i := range placesIn(n) {
			if got := length(t, i, n); got != lengthByWords(i, n) {
				t.Fatal(i, n, got)
			}
		}
	}
}

func TestLengthAtTheGreatestSize(t *testing.T) {
	for _, x := range []struct{ i, n, want int }{
		{0, api.MaxSize, 48}, {api.MaxSize - 1, api.MaxSize, 48}, {api.MaxSize / 2, api.MaxSize, 48},
		{api.MaxSize - 2, api.MaxSize - 1, 47}, {0, api.MaxSize - 1, 48},
		{api.MaxSize / 2, api.MaxSize/2 + 1, 1}, {0, api.MaxSize/2 + 1, 48}, {api.MaxSize/2 - 1, api.MaxSize / 2, 47},
	} {
		if got := length(t, x.i, x.n); got != x.want {
			t.Error(x, got)
		}
	}
}

func TestLengthIsAtMostTheBitsOfTheSize(t *testing.T) {
	for _, n := range append(upTo(most), sizes()...) {
		for _, i := range placesIn(n) {
			if got := length(t, i, n); got > bits.Len(uint(n-1)) || got > api.MaxProof {
				t.Fatal(i, n, got)
			}
		}
		if got := length(t, 0, n); got != bits.Len(uint(n-1)) {
			t.Fatal(n, got)
		}
	}
}

func TestLengthOutsideTheRange(t *testing.T) {
	for _, i := range edges() {
		for _, n := range edges() {
			good := 1 <= n && n <= api.MaxSize && 0 <= i && i < n
			got, e := Length(i, n)
			if good && e != api.OK || !good && (e != api.ErrRange || got != 0) {
				t.Fatal(i, n, got, e)
			}
		}
	}
}

func TestRootOfFewLeaves(t *testing.T) {
	l := someDigests(1, 7)
	a, b, c, d, e, f, g := l[0], l[1], l[2], l[3], l[4], l[5], l[6]
	ab, cd, ef := node(a, b), node(c, d), node(e, f)
	abcd := node(ab, cd)
	for _, x := range []struct {
		leaf api.Digest
		i, n int
		path []api.Digest
		want api.Digest
	}{
		{a, 0, 1, nil, a}, {a, 0, 1, []api.Digest{}, a},
		{a, 0, 2, []api.Digest{b}, ab}, {b, 1, 2, []api.Digest{a}, ab},
		{a, 0, 3, []api.Digest{b, c}, node(ab, c)}, {b, 1, 3, []api.Digest{a, c}, node(ab, c)}, {c, 2, 3, []api.Digest{ab}, node(ab, c)},
		{c, 2, 5, []api.Digest{d, ab, e}, node(abcd, e)}, {e, 4, 5, []api.Digest{abcd}, node(abcd, e)},
		{e, 4, 7, []api.Digest{f, g, abcd}, node(abcd, node(ef, g))}, {g, 6, 7, []api.Digest{ef, abcd}, node(abcd, node(ef, g))},
	} {
		if got := root(t, x.leaf, x.i, x.n, x.path); got != x.want {
			t.Errorf("%d in %d: %x", x.i, x.n, got)
		}
	}
}

func TestRootByItsWordsAndFromBelow(t *testing.T) {
	many := someDigests(2, 100)
	for _, n := range append(upTo(130), sizes()...) {
		for _, i := range placesIn(n) {
			path := many[:lengthByWords(i, n)]
			leaf := api.Digest{byte(i), byte(n), 7}
			got := root(t, leaf, i, n, path)
			if got != rootByWords(leaf, i, n, path) {
				t.Fatal(i, n, "by its words")
			}
			if below, ok := rfcRoot(leaf, i, n, path); !ok || got != below {
				t.Fatal(i, n, "from below", ok)
			}
		}
	}
}

func TestRootOfOneLeafIsTheLeaf(t *testing.T) {
	for _, leaf := range append(someDigests(3, 4), api.Digest{}, tree.Empty()) {
		if got := root(t, leaf, 0, 1, nil); got != leaf {
			t.Errorf("%x", got)
		}
	}
}

func TestRootOfAnotherNumberOfDigests(t *testing.T) {
	many := someDigests(9, 310)
	for _, n := range append(upTo(20), sizes()...) {
		for _, i := range placesIn(n) {
			for _, path := range wrongLengths(many, lengthByWords(i, n)) {
				if d, e := Root(api.Digest{1}, i, n, path); d != (api.Digest{}) || e != api.ErrLength {
					t.Fatal(i, n, len(path), d, e)
				}
			}
		}
	}
}

func TestRootOutsideTheRange(t *testing.T) {
	many := someDigests(4, api.MaxProof+1)
	for _, i := range edges() {
		for _, n := range edges() {
			if 1 <= n && n <= api.MaxSize && 0 <= i && i < n {
				continue
			}
			for _, count := range []int{0, 1, 48, 49, len(many)} {
				if d, e := Root(api.Digest{1}, i, n, many[:count]); d != (api.Digest{}) || e != api.ErrRange {
					t.Fatal(i, n, count, d, e)
				}
			}
		}
	}
}

// P7.2

func TestInclusionOfEveryLeaf(t *testing.T) {
	l := someDigests(5, most)
	for n := 1; n <= most; n++ {
		top := tree.Root(l[:n])
		for i := range n {
			path := inclusion(t, l, i, n)
			if e := Inclusion(l[i], i, n, path, top); e != api.OK {
				t.Fatal(i, n, e)
			}
			for _, other := range []api.Digest{{}, l[i], tree.Root(l[:n-1]), tree.Empty(), changed([]api.Digest{top}, 0, i%256)[0]} {
				if other != top && Inclusion(l[i], i, n, path, other) != api.ErrRoot {
					t.Fatal(i, n, "another root")
				}
			}
		}
	}
}

func TestInclusionOfAnotherLeafOrPlace(t *testing.T) {
	l := someDigests(6, 20)
	for n := 1; n <= len(l); n++ {
		top := tree.Root(l[:n])
		for i := range n {
			path := inclusion(t, l, i, n)
			for other := range n {
				want := api.ErrRoot
				if other == i {
					want = api.OK
				}
				if e := Inclusion(l[other], i, n, path, top); e != want {
					t.Fatal(i, n, "the leaf", other, e)
				}
				if lengthByWords(other, n) != len(path) {
					want = api.ErrLength
				}
				if e := Inclusion(l[i], other, n, path, top); e != want {
					t.Fatal(i, n, "the place", other, e)
				}
			}
		}
	}
}

func TestInclusionOfANodeAsALeaf(t *testing.T) {
	l := someDigests(7, 4)
	top := tree.Root(l)
	ab, cd := node(l[0], l[1]), node(l[2], l[3])
	if e := Inclusion(ab, 0, 4, []api.Digest{cd}, top); e != api.ErrLength {
		t.Error(e)
	}
	if e := Inclusion(top, 0, 4, nil, top); e != api.ErrLength {
		t.Error(e)
	}
	if e := Inclusion(ab, 0, 2, []api.Digest{cd}, top); e != api.OK {
		t.Error("in a tree of two leaves that are those nodes:", e)
	}
}

func TestInclusionsErrorsInOrder(t *testing.T) {
	a, b := api.Digest{1}, api.Digest{2}
	for _, x := range []struct {
		i, n int
		path []api.Digest
		root api.Digest
		want api.Errno
	}{
		{0, 1, nil, a, api.OK}, {0, 1, nil, b, api.ErrRoot}, {0, 1, []api.Digest{a}, a, api.ErrLength}, {0, 1, []api.Digest{a}, b, api.ErrLength},
		{0, 2, nil, a, api.ErrLength}, {0, 2, nil, b, api.ErrLength}, {0, 2, []api.Digest{b}, node(a, b), api.OK}, {1, 2, []api.Digest{b}, node(a, b), api.ErrRoot},
		{1, 1, nil, a, api.ErrRange}, {-1, 1, nil, a, api.ErrRange}, {0, 0, nil, a, api.ErrRange}, {0, 0, nil, api.Digest{}, api.ErrRange}, {0, 0, nil, tree.Empty(), api.ErrRange},
		{0, -1, []api.Digest{a}, b, api.ErrRange}, {0, api.MaxSize, nil, a, api.ErrLength}, {0, api.MaxSize + 1, nil, a, api.ErrRange},
		{api.MaxSize, api.MaxSize, nil, a, api.ErrRange}, {math.MaxInt, math.MinInt, nil, b, api.ErrRange}, {math.MinInt, math.MaxInt, nil, b, api.ErrRange},
	} {
		if e := Inclusion(a, x.i, x.n, x.path, x.root); e != x.want {
			t.Error(x.i, x.n, len(x.path), e, x.want)
		}
	}
}

func TestInclusionInTheGreatestTree(t *testing.T) {
	path := someDigests(8, 48)
	for _, i := range placesIn(api.MaxSize) {
		top, _ := rfcRoot(api.Digest{3}, i, api.MaxSize, path)
		if e := Inclusion(api.Digest{3}, i, api.MaxSize, path, top); e != api.OK {
			t.Fatal(i, e)
		}
		if e := Inclusion(api.Digest{3}, i^1, api.MaxSize, path, top); e != api.ErrRoot {
			t.Fatal(i, e)
		}
	}
}

// P7.3

func TestStepsOfFewLeaves(t *testing.T) {
	for _, x := range []struct{ m, n, want int }{
		{1, 1, 0}, {2, 2, 0}, {3, 3, 0}, {5, 5, 0}, {1, 2, 1}, {1, 3, 2}, {2, 3, 1}, {1, 4, 2}, {2, 4, 1}, {3, 4, 3},
		{1, 5, 3}, {2, 5, 2}, {3, 5, 4}, {4, 5, 1}, {3, 7, 4}, {4, 7, 1}, {5, 7, 4}, {6, 7, 3}, {7, 8, 4}, {6, 8, 3}, {4, 8, 1},
	} {
		if got := steps(t, x.m, x.n); got != x.want {
			t.Error(x, got)
		}
	}
}

func TestStepsByTheirWords(t *testing.T) {
	for n := 1; n <= 300; n++ {
		for m := 1; m <= n; m++ {
			if got := steps(t, m, n); got != belowByWords(m, n, true) {
				t.Fatal(m, n, got)
			}
		}
	}
	for _, n := range sizes() {
		for _, last := range placesIn(n) {
			if got := steps(t, last+1, n); got != belowByWords(last+1, n, true) || got > api.MaxProof {
				t.Fatal(last+1, n, got)
			}
		}
	}
}

func TestStepsAtTheGreatestSize(t *testing.T) {
	for _, x := range []struct{ m, n, want int }{
		{api.MaxSize, api.MaxSize, 0}, {api.MaxSize - 1, api.MaxSize, 49}, {api.MaxSize / 2, api.MaxSize, 1}, {1, api.MaxSize, 48},
		{api.MaxSize/2 + 1, api.MaxSize, 49}, {api.MaxSize - 1, api.MaxSize - 1, 0}, {api.MaxSize - 2, api.MaxSize - 1, 48}, {3, api.MaxSize, 49},
	} {
		if got := steps(t, x.m, x.n); got != x.want {
			t.Error(x, got)
		}
	}
}

func TestStepsOutsideTheRange(t *testing.T) {
	for _, m := range edges() {
		for _, n := range edges() {
			good := 1 <= m && m <= n && n <= api.MaxSize
			got, e := Steps(m, n)
			if good && e != api.OK || !good && (e != api.ErrRange || got != 0) {
				t.Fatal(m, n, got, e)
			}
		}
	}
}

func TestRootsOfFewLeaves(t *testing.T) {
	l := someDigests(10, 7)
	a, b, c, d, e, f, g := l[0], l[1], l[2], l[3], l[4], l[5], l[6]
	ab, cd, ef := node(a, b), node(c, d), node(e, f)
	abcd, any := node(ab, cd), api.Digest{9}
	all := node(abcd, node(ef, g))
	for _, x := range []struct {
		first        api.Digest
		m, n         int
		path         []api.Digest
		older, newer api.Digest
	}{
		{a, 1, 1, nil, a, a}, {any, 5, 5, []api.Digest{}, any, any},
		{a, 1, 2, []api.Digest{b}, a, ab}, {a, 1, 3, []api.Digest{b, c}, a, node(ab, c)}, {ab, 2, 3, []api.Digest{c}, ab, node(ab, c)},
		{ab, 2, 4, []api.Digest{cd}, ab, abcd}, {any, 3, 4, []api.Digest{c, d, ab}, node(ab, c), abcd},
		{any, 3, 5, []api.Digest{c, d, ab, e}, node(ab, c), node(abcd, e)}, {abcd, 4, 5, []api.Digest{e}, abcd, node(abcd, e)},
		{any, 5, 7, []api.Digest{e, f, g, abcd}, node(abcd, e), all}, {any, 6, 7, []api.Digest{ef, g, abcd}, node(abcd, ef), all},
	} {
		older, newer := roots(t, x.first, x.m, x.n, x.path)
		if older != x.older || newer != x.newer {
			t.Errorf("%d and %d: %x %x", x.m, x.n, older, newer)
		}
	}
}

func TestRootsFromBelow(t *testing.T) {
	many, first := someDigests(11, 100), api.Digest{5}
	for _, n := range append(upTo(130), sizes()...) {
		for _, m := range placesIn(n) {
			if m == 0 {
				continue
			}
			path := many[:belowByWords(m, n, true)]
			older, newer := roots(t, first, m, n, path)
			if x, y, ok := rfcRoots(first, m, n, path); !ok || older != x || newer != y {
				t.Fatal(m, n, ok)
			}
		}
	}
}

func TestRootsOfASizeAndItself(t *testing.T) {
	for _, n := range append(upTo(most), sizes()...) {
		for _, first := range []api.Digest{{}, {1}, tree.Empty()} {
			older, newer := roots(t, first, n, n, nil)
			if older != first || newer != first {
				t.Fatal(n)
			}
		}
	}
}

func TestWhereTheFirstDigestCounts(t *testing.T) {
	many := someDigests(12, 100)
	for _, n := range append(upTo(most), sizes()...) {
		for _, last := range placesIn(n) {
			m := last + 1
			path := many[:belowByWords(m, n, true)]
			older, newer := roots(t, api.Digest{1}, m, n, path)
			olderToo, newerToo := roots(t, api.Digest{2}, m, n, path)
			if counts := m == n || bits.OnesCount(uint(m)) == 1; (older != olderToo) != counts || (newer != newerToo) != counts {
				t.Fatal(m, n, counts)
			}
		}
	}
}

func TestRootsOfAnotherNumberOfDigests(t *testing.T) {
	many := someDigests(9, 310)
	for _, n := range append(upTo(20), sizes()...) {
		for _, last := range placesIn(n) {
			for _, path := range wrongLengths(many, belowByWords(last+1, n, true)) {
				if x, y, e := Roots(api.Digest{1}, last+1, n, path); x != (api.Digest{}) || y != (api.Digest{}) || e != api.ErrLength {
					t.Fatal(last+1, n, len(path), x, y, e)
				}
			}
		}
	}
}

func TestRootsOutsideTheRange(t *testing.T) {
	many := someDigests(13, api.MaxProof+1)
	for _, m := range edges() {
		for _, n := range edges() {
			if 1 <= m && m <= n && n <= api.MaxSize {
				continue
			}
			for _, count := range []int{0, 1, 48, 49, len(many)} {
				if x, y, e := Roots(api.Digest{1}, m, n, many[:count]); x != (api.Digest{}) || y != (api.Digest{}) || e != api.ErrRange {
					t.Fatal(m, n, count, x, y, e)
				}
			}
		}
	}
}

// P7.4

func TestConsistencyOfEveryPairOfSizes(t *testing.T) {
	l := someDigests(14, most)
	for n := 1; n <= most; n++ {
		newer := tree.Root(l[:n])
		for m := 1; m <= n; m++ {
			older, path := tree.Root(l[:m]), consistency(t, l, m, n)
			if e := Consistency(m, n, older, newer, path); e != api.OK {
				t.Fatal(m, n, e)
			}
			for _, bit := range []int{0, 7, 100, 255} {
				x, y := changed([]api.Digest{older}, 0, bit)[0], changed([]api.Digest{newer}, 0, bit)[0]
				if Consistency(m, n, x, newer, path) != api.ErrRoot || Consistency(m, n, older, y, path) != api.ErrRoot || m < n && Consistency(m, n, x, y, path) != api.ErrRoot {
					t.Fatal(m, n, "another root", bit)
				}
			}
			if m < n && Consistency(m, n, newer, older, path) != api.ErrRoot {
				t.Fatal(m, n, "the roots exchanged")
			}
		}
	}
}

func TestConsistencyOfASizeAndItself(t *testing.T) {
	a, b := api.Digest{1}, api.Digest{2}
	for _, n := range append(upTo(most), sizes()...) {
		if e := Consistency(n, n, a, a, nil); e != api.OK {
			t.Fatal(n, e)
		}
		if e := Consistency(n, n, a, b, nil); e != api.ErrRoot {
			t.Fatal(n, e)
		}
		if e := Consistency(n, n, a, a, []api.Digest{a}); e != api.ErrLength {
			t.Fatal(n, e)
		}
	}
}

func TestConsistencyOfTreesThatPart(t *testing.T) {
	l := someDigests(15, 20)
	for place := range l {
		other := slices.Clone(l)
		other[place] = api.Digest{byte(place), 1}
		for n := place + 1; n <= len(l); n++ {
			for m := place + 1; m < n; m++ {
				path := consistency(t, l, m, n)
				if e := Consistency(m, n, tree.Root(other[:m]), tree.Root(l[:n]), path); e != api.ErrRoot {
					t.Fatal(place, m, n, e)
				}
				path = consistency(t, other, m, n)
				if e := Consistency(m, n, tree.Root(l[:m]), tree.Root(other[:n]), path); e != api.ErrRoot {
					t.Fatal(place, m, n, e)
				}
			}
		}
	}
}

func TestConsistencyOfOtherSizes(t *testing.T) {
	l := someDigests(16, 20)
	for n := 1; n <= len(l); n++ {
		for m := 1; m < n; m++ {
			older, newer, path := tree.Root(l[:m]), tree.Root(l[:n]), consistency(t, l, m, n)
			for other := 1; other <= n; other++ {
				want := api.ErrRoot
				if belowByWords(other, n, true) != len(path) {
					want = api.ErrLength
				}
				if e := Consistency(other, n, older, newer, path); other != m && e != want {
					t.Fatal(other, "for", m, n, e, want)
				}
			}
		}
	}
}

func TestConsistencysErrorsInOrder(t *testing.T) {
	a, b := api.Digest{1}, api.Digest{2}
	ab := node(a, b)
	for _, x := range []struct {
		m, n         int
		older, newer api.Digest
		path         []api.Digest
		want         api.Errno
	}{
		{1, 2, a, ab, []api.Digest{b}, api.OK}, {1, 2, b, ab, []api.Digest{b}, api.ErrRoot}, {1, 2, a, a, []api.Digest{b}, api.ErrRoot}, {1, 2, a, node(b, a), []api.Digest{b}, api.ErrRoot},
		{1, 2, a, ab, nil, api.ErrLength}, {1, 2, b, a, nil, api.ErrLength}, {1, 2, a, ab, []api.Digest{a, b}, api.ErrLength},
		{2, 1, ab, a, nil, api.ErrRange}, {2, 1, a, a, nil, api.ErrRange}, {0, 2, tree.Empty(), ab, nil, api.ErrRange}, {0, 0, a, a, nil, api.ErrRange}, {-1, 2, a, a, nil, api.ErrRange},
		{-1, -1, a, a, nil, api.ErrRange}, {1, api.MaxSize + 1, a, b, nil, api.ErrRange}, {api.MaxSize + 1, api.MaxSize + 1, a, a, nil, api.ErrRange},
		{api.MaxSize, api.MaxSize, a, a, nil, api.OK}, {1, api.MaxSize, a, a, nil, api.ErrLength},
		{math.MaxInt, math.MaxInt, a, a, nil, api.ErrRange}, {math.MinInt, math.MaxInt, a, b, nil, api.ErrRange}, {math.MaxInt, math.MinInt, a, b, nil, api.ErrRange},
	} {
		if e := Consistency(x.m, x.n, x.older, x.newer, x.path); e != x.want {
			t.Error(x.m, x.n, len(x.path), e, x.want)
		}
	}
}

func TestConsistencyUpToTheGreatestTree(t *testing.T) {
	many := someDigests(17, 49)
	for _, m := range placesIn(api.MaxSize) {
		if m == 0 {
			continue
		}
		path := many[:belowByWords(m, api.MaxSize, true)]
		older, newer, _ := rfcRoots(api.Digest{3}, m, api.MaxSize, path)
		if e := Consistency(m, api.MaxSize, older, newer, path); e != api.OK {
			t.Fatal(m, e)
		}
		if e := Consistency(m, api.MaxSize, newer, older, path); e != api.ErrRoot {
			t.Fatal(m, e)
		}
	}
}

// P7.5

func TestRootOfTheTreesProofs(t *testing.T) {
	l := someDigests(18, 257)
	for _, n := range append(upTo(most), 63, 64, 65, 127, 128, 129, 255, 256, 257) {
		top := tree.Root(l[:n])
		for i := range n {
			path := inclusion(t, l, i, n)
			if length(t, i, n) != len(path) || root(t, l[i], i, n, path) != top {
				t.Fatal(i, n)
			}
		}
	}
}

func TestRootsOfTheTreesProofs(t *testing.T) {
	l := someDigests(19, 129)
	for _, n := range append(upTo(most), 63, 64, 65, 127, 128, 129) {
		for m := 1; m <= n; m++ {
			path := consistency(t, l, m, n)
			older, newer := roots(t, tree.Root(l[:m]), m, n, path)
			if steps(t, m, n) != len(path) || older != tree.Root(l[:m]) || newer != tree.Root(l[:n]) {
				t.Fatal(m, n)
			}
		}
	}
}

func TestAnotherDigestLeadsToAnotherRoot(t *testing.T) {
	l := someDigests(20, 33)
	for n := 1; n <= len(l); n++ {
		for i := range n {
			path := inclusion(t, l, i, n)
			for at := range path {
				for _, bit := range []int{0, 7, 100, 255} {
					if root(t, l[i], i, n, changed(path, at, bit)) == tree.Root(l[:n]) {
						t.Fatal(i, n, at, bit)
					}
				}
			}
			if root(t, changed(l, i, 3)[i], i, n, path) == tree.Root(l[:n]) {
				t.Fatal(i, n, "the leaf")
			}
		}
	}
}

func TestAnotherDigestLeadsToOtherRoots(t *testing.T) {
	l := someDigests(21, 33)
	for n := 1; n <= len(l); n++ {
		for m := 1; m <= n; m++ {
			older, newer, path := tree.Root(l[:m]), tree.Root(l[:n]), consistency(t, l, m, n)
			for at := range path {
				for _, bit := range []int{0, 7, 100, 255} {
					if _, y := roots(t, older, m, n, changed(path, at, bit)); y == newer {
						t.Fatal(m, n, at, bit)
					}
					if e := Consistency(m, n, older, newer, changed(path, at, bit)); e != api.ErrRoot {
						t.Fatal(m, n, at, bit, e)
					}
				}
			}
		}
	}
}

func TestDigestsThatAreExchangedLeadToAnotherRoot(t *testing.T) {
	l := someDigests(22, 20)
	for n := 1; n <= len(l); n++ {
		for i := range n {
			path := inclusion(t, l, i, n)
			for at := 1; at < len(path); at++ {
				path[at-1], path[at] = path[at], path[at-1]
				if e := Inclusion(l[i], i, n, path, tree.Root(l[:n])); e != api.ErrRoot {
					t.Fatal(i, n, at, e)
				}
				path[at-1], path[at] = path[at], path[at-1]
			}
			path = consistency(t, l, i+1, n)
			for at := 1; at < len(path); at++ {
				path[at-1], path[at] = path[at], path[at-1]
				if e := Consistency(i+1, n, tree.Root(l[:i+1]), tree.Root(l[:n]), path); e != api.ErrRoot {
					t.Fatal(i+1, n, at, e)
				}
				path[at-1], path[at] = path[at], path[at-1]
			}
		}
	}
}

// Rules 4 and 8

func TestPathsAreNotChangedAndTheirSpareRoomIsNotRead(t *testing.T) {
	for n := 1; n <= 20; n++ {
		for i := range n {
			for _, count := range []int{lengthByWords(i, n), belowByWords(i+1, n, true)} {
				memory, others := someDigests(23, count+5), someDigests(23, count+5)
				copy(others[count:], someDigests(24, 5))
				path, like := memory[:count], others[:count]
				d, e := Root(api.Digest{1}, i, n, path)
				if d2, e2 := Root(api.Digest{1}, i, n, like); d != d2 || e != e2 {
					t.Fatal(i, n, "Root reads the spare room")
				}
				x, y, e := Roots(api.Digest{1}, i+1, n, path)
				if x2, y2, e2 := Roots(api.Digest{1}, i+1, n, like); x != x2 || y != y2 || e != e2 {
					t.Fatal(i, n, "Roots reads the spare room")
				}
				Inclusion(api.Digest{1}, i, n, path, d)
				Consistency(i+1, n, x, y, path)
				if !slices.Equal(memory, someDigests(23, count+5)) {
					t.Fatal(i, n, "the path is changed")
				}
			}
		}
	}
}

// Rule 3

func TestNilAndEmptyPathsAreAlike(t *testing.T) {
	for _, n := range append(upTo(5), api.MaxSize) {
		for _, i := range placesIn(n) {
			d, e := Root(api.Digest{1}, i, n, nil)
			if d2, e2 := Root(api.Digest{1}, i, n, []api.Digest{}); d != d2 || e != e2 {
				t.Error(i, n)
			}
			x, y, e := Roots(api.Digest{1}, i+1, n, nil)
			if x2, y2, e2 := Roots(api.Digest{1}, i+1, n, []api.Digest{}); x != x2 || y != y2 || e != e2 {
				t.Error(i+1, n)
			}
		}
	}
}
