package tree

import (
	"bytes"
	"crypto/sha256"
	"encoding/hex"
	"math"
	"math/bits"
	"slices"
	"testing"

	"coppice/api"
)

// most is the size up to which all trees, all their leaves and all pairs of their sizes are gone through.
const most = 48

// someLeaves tells n digests, all unlike, others for each kind.
func someLeaves(kind byte, n int) []api.Digest {
	l := make([]api.Digest, n)
	for i := range l {
		l[i] = sha256.Sum256([]byte{kind, byte(i >> 8), byte(i)})
	}
	return l
}

func someBytes(n int) []byte {
	b := make([]byte, n)
	for i := range b {
		b[i] = byte(i + i>>8 + n)
	}
	return b
}

func unhex(t *testing.T, s string) []byte {
	t.Helper()
	b, err := hex.DecodeString(s)
	if err != nil {
		t.Fatal(err)
	}
	return b
}

func digestOf(t *testing.T, s string) api.Digest {
	t.Helper()
	return api.Digest(unhex(t, s))
}

// theLibrarys tells a node's digest by the library's hash.
func theLibrarys(l, r api.Digest) api.Digest {
	return sha256.Sum256(slices.Concat([]byte{1}, l[:], r[:]))
}

// levelByLevel tells the root by pairing the digests of each level; one that has no partner goes up as it is.
func levelByLevel(l []api.Digest) api.Digest {
	if len(l) == 0 {
		return sha256.Sum256(nil)
	}
	for l = slices.Clone(l); len(l) > 1; {
		var up []api.Digest
		for pair := range slices.Chunk(l, 2) {
			if len(pair) == 2 {
				up = append(up, theLibrarys(pair[0], pair[1]))
			} else {
				up = append(up, pair[0])
			}
		}
		l = up
	}
	return l[0]
}

// partners tells the digests beside the leaf at i, level by level.
func partners(l []api.Digest, i int) []api.Digest {
	var out []api.Digest
	for l = slices.Clone(l); len(l) > 1; i /= 2 {
		if i^1 < len(l) {
			out = append(out, l[i^1])
		}
		var up []api.Digest
		for pair := range slices.Chunk(l, 2) {
			up = append(up, levelByLevel(pair))
		}
		l = up
	}
	return out
}

// subproof tells a consistency proof by the words of its definition.
func subproof(l []api.Digest, m int, whole bool) []api.Digest {
	n := len(l)
	if m == n {
		if whole {
			return nil
		}
		return []api.Digest{levelByLevel(l)}
	}
	k := 1
	for 2*k < n {
		k *= 2
	}
	if m <= k {
		return append(subproof(l[:k], m, whole), levelByLevel(l[k:]))
	}
	return append(subproof(l[k:], m-k, false), levelByLevel(l[:k]))
}

func inclusion(t *testing.T, l []api.Digest, i, n int) []api.Digest {
	t.Helper()
	p, e := Inclusion(l, i, n)
	if e != api.OK {
		t.Fatal("inclusion", i, n, e)
	}
	return p
}

func consistency(t *testing.T, l []api.Digest, m, n int) []api.Digest {
	t.Helper()
	p, e := Consistency(l, m, n)
	if e != api.OK {
		t.Fatal("consistency", m, n, e)
	}
	return p
}

func sub(t *testing.T, l []api.Digest, begin, end int) api.Digest {
	t.Helper()
	d, e := Sub(l, api.Span{Begin: begin, End: end})
	if e != api.OK {
		t.Fatal("sub", begin, end, e)
	}
	return d
}

// theKnown tells the eight leaves' bytes by which certificates' logs are tried.
func theKnown(t *testing.T) []api.Digest {
	t.Helper()
	var l []api.Digest
	for _, s := range []string{"", "00", "10", "2021", "3031", "40414243", "5051525354555657", "606162636465666768696a6b6c6d6e6f"} {
		l = append(l, Leaf(unhex(t, s)))
	}
	return l
}

// P4.1

func TestLeavesDigests(t *testing.T) {
	if Leaf(nil) != digestOf(t, "6e340b9cffb37a989ca544e6bb780a2c78901d3fb33738768511a30617afa01d") {
		t.Error("of nothing")
	}
	if Leaf(nil) != Leaf([]byte{}) {
		t.Error("nil and nothing differ")
	}
	for _, n := range []int{0, 1, 2, 54, 55, 56, 62, 63, 64, 65, 1000, api.MaxLeaf, api.MaxLeaf + 1} {
		b := someBytes(n)
		if Leaf(b) != sha256.Sum256(append([]byte{0}, b...)) {
			t.Error(n)
		}
	}
}

func TestNodesDigests(t *testing.T) {
	for kind := range byte(50) {
		l := someLeaves(kind, 2)
		if Node(l[0], l[1]) != theLibrarys(l[0], l[1]) || Node(l[1], l[0]) != theLibrarys(l[1], l[0]) {
			t.Error(kind)
		}
		if Node(l[0], l[1]) == Node(l[1], l[0]) {
			t.Error(kind, "its halves may be exchanged")
		}
	}
	if Node(api.Digest{}, api.Digest{}) != theLibrarys(api.Digest{}, api.Digest{}) {
		t.Error("of digests of noughts")
	}
}

func TestALeafIsNoNode(t *testing.T) {
	l := someLeaves(2, 2)
	both := slices.Concat(l[0][:], l[1][:])
	if Leaf(both) == Node(l[0], l[1]) || Leaf(append([]byte{1}, both...)) == Node(l[0], l[1]) {
		t.Error("a leaf has a node's digest")
	}
}

func TestTheRootOfNothing(t *testing.T) {
	if Empty() != digestOf(t, "e3b0c44298fc1c149afbf4c8996fb92427ae41e4649b934ca495991b7852b855") {
		t.Errorf("%x", Empty())
	}
}

func TestSplit(t *testing.T) {
	for _, x := range [][2]int{{2, 1}, {3, 2}, {4, 2}, {5, 4}, {6, 4}, {7, 4}, {8, 4}, {9, 8}, {api.MaxSize, api.MaxSize / 2}, {api.MaxSize + 1, api.MaxSize}, {math.MaxInt, 1 << 62}, {math.MaxInt - 1, 1 << 62}} {
		if k, e := Split(x[0]); k != x[1] || e != api.OK {
			t.Error(x, k, e)
		}
	}
	for n := 2; n < 5000; n++ {
		k, e := Split(n)
		if e != api.OK || bits.OnesCount(uint(k)) != 1 || k >= n || 2*k < n {
			t.Fatal(n, k, e)
		}
	}
}

func TestSplitAboutPowersOfTwo(t *testing.T) {
	for i := 2; i < 63; i++ {
		n := 1 << i
		for _, x := range [][2]int{{n - 1, n / 2}, {n, n / 2}, {n + 1, n}} {
			if k, e := Split(x[0]); k != x[1] || e != api.OK {
				t.Error(x, k, e)
			}
		}
	}
}

func TestWhatCanNotBeSplit(t *testing.T) {
	for _, n := range []int{1, 0, -1, -2, -3, -4, -1 << 31, -1 << 32, math.MinInt + 1, math.MinInt} {
		if k, e := Split(n); k != 0 || e != api.ErrRange {
			t.Error(n, k, e)
		}
	}
}

// P4.2

func TestKnownRoots(t *testing.T) {
	l := theKnown(t)
	for i, want := range []string{
		"e3b0c44298fc1c149afbf4c8996fb92427ae41e4649b934ca495991b7852b855",
		"6e340b9cffb37a989ca544e6bb780a2c78901d3fb33738768511a30617afa01d",
		"fac54203e7cc696cf0dfcb42c92a1d9dbaf70ad9e621f4bd8d98662f00e3c125",
		"aeb6bcfe274b70a14fb067a5e5578264db0fa9b51af5e0ba159158f329e06e77",
		"d37ee418976dd95753c1c73862b9398fa2a2cf9b4ff0fdfe8b30cd95209614b7",
		"4e3bbb1f7b478dcfe71fb631631519a3bca12c9aefca1612bfce4c13a86264d4",
		"76e67dadbcdf1e10e1b74ddc608abd2f98dfb16fbce75277b5232a127f2087ef",
		"ddb89be403809e325750d3d263cd78929c2942b7942a34b77e122c9594a74c8c",
		"5dc9da79a70659a9ad559cb701ded9a2ab9d823aad2f4960cfe370eff4604328",
	} {
		if d := Root(l[:i]); d != digestOf(t, want) {
			t.Errorf("%d: %x", i, d)
		}
	}
}

func TestRootsOfFewLeaves(t *testing.T) {
	l := someLeaves(3, 7)
	a, b, c, d, e, f, g := l[0], l[1], l[2], l[3], l[4], l[5], l[6]
	abcd := Node(Node(a, b), Node(c, d))
	for n, want := range []api.Digest{Empty(), a, Node(a, b), Node(Node(a, b), c), abcd, Node(abcd, e), Node(abcd, Node(e, f)), Node(abcd, Node(Node(e, f), g))} {
		if Root(l[:n]) != want {
			t.Error(n)
		}
	}
	if Root(nil) != Empty() || Root([]api.Digest{}) != Empty() {
		t.Error("of none")
	}
}

func TestRootsOfAllSizes(t *testing.T) {
	for n := range 300 {
		l := someLeaves(4, n)
		if Root(l) != levelByLevel(l) {
			t.Error(n)
		}
	}
	for _, n := range []int{1023, 1024, 1025, 5000} {
		l := someLeaves(5, n)
		if Root(l) != levelByLevel(l) {
			t.Error(n)
		}
	}
}

func TestRootsOfLeavesThatAreAlike(t *testing.T) {
	for n := range 70 {
		for _, d := range []api.Digest{{}, {1}, Empty()} {
			l := slices.Repeat([]api.Digest{d}, n)
			if Root(l) != levelByLevel(l) {
				t.Error(n)
			}
		}
	}
}

func TestSubOfEverySpan(t *testing.T) {
	l := someLeaves(6, most)
	for end := range most + 1 {
		for begin := range end {
			if sub(t, l, begin, end) != levelByLevel(l[begin:end]) {
				t.Fatal(begin, end)
			}
		}
	}
	for i := range l {
		if sub(t, l, i, i+1) != l[i] {
			t.Error(i, "one leaf is not its digest")
		}
	}
	if sub(t, l, 0, most) != Root(l) {
		t.Error("all are not the root")
	}
}

func TestSubOfSpansThatAreNone(t *testing.T) {
	l := someLeaves(7, 5)
	ends := []int{math.MinInt, math.MinInt + 1, -5, -1, 0, 1, 2, 4, 5, 6, 7, 1 << 32, math.MaxInt - 1, math.MaxInt}
	for _, begin := range ends {
		for _, end := range ends {
			good := 0 <= begin && begin < end && end <= 5
			d, e := Sub(l, api.Span{Begin: begin, End: end})
			if good && (e != api.OK || d != Root(l[begin:end])) || !good && (e != api.ErrRange || d != api.Digest{}) {
				t.Errorf("%d %d: %x %v", begin, end, d, e)
			}
		}
	}
	for _, s := range []api.Span{{}, {End: 1}, {Begin: -1}, {Begin: 1}, {Begin: -1, End: 1}} {
		if d, e := Sub(nil, s); d != (api.Digest{}) || e != api.ErrRange {
			t.Errorf("%v of none: %x %v", s, d, e)
		}
	}
}

// P4.3

func TestInclusionInFewLeaves(t *testing.T) {
	l := someLeaves(8, 7)
	a, b, c, d, e, f, g := l[0], l[1], l[2], l[3], l[4], l[5], l[6]
	ab, cd, ef := Node(a, b), Node(c, d), Node(e, f)
	for _, x := range []struct {
		i, n int
		want []api.Digest
	}{
		{0, 1, nil},
		{0, 2, []api.Digest{b}}, {1, 2, []api.Digest{a}},
		{0, 3, []api.Digest{b, c}}, {1, 3, []api.Digest{a, c}}, {2, 3, []api.Digest{ab}},
		{0, 7, []api.Digest{b, cd, Node(ef, g)}}, {3, 7, []api.Digest{c, ab, Node(ef, g)}},
		{4, 7, []api.Digest{f, g, Node(ab, cd)}}, {6, 7, []api.Digest{ef, Node(ab, cd)}},
	} {
		if p := inclusion(t, l, x.i, x.n); !slices.Equal(p, x.want) {
			t.Errorf("%d in %d: %x", x.i, x.n, p)
		}
	}
}

func TestKnownInclusions(t *testing.T) {
	l := theKnown(t)
	for _, x := range []struct {
		i, n int
		want []string
	}{
		{0, 8, []string{"96a296d224f285c67bee93c30f8a309157f0daa35dc5b87e410b78630a09cfc7", "5f083f0a1a33ca076a95279832580db3e0ef4584bdff1f54c8a360f50de3031e", "6b47aaf29ee3c2af9af889bc1fb9254dabd31177f16232dd6aab035ca39bf6e4"}},
		{5, 8, []string{"bc1a0643b12e4d2d7c77918f44e0f4f79a838b6cf9ec5b5c283e1f4d88599e6b", "ca854ea128ed050b41b35ffc1b87b8eb2bde461e9e3b5596ece6b9d5975a0ae0", "d37ee418976dd95753c1c73862b9398fa2a2cf9b4ff0fdfe8b30cd95209614b7"}},
		{2, 3, []string{"fac54203e7cc696cf0dfcb42c92a1d9dbaf70ad9e621f4bd8d98662f00e3c125"}},
		{1, 5, []string{"6e340b9cffb37a989ca544e6bb780a2c78901d3fb33738768511a30617afa01d", "5f083f0a1a33ca076a95279832580db3e0ef4584bdff1f54c8a360f50de3031e", "bc1a0643b12e4d2d7c77918f44e0f4f79a838b6cf9ec5b5c283e1f4d88599e6b"}},
	} {
		var want []api.Digest
		for _, s := range x.want {
			want = append(want, digestOf(t, s))
		}
		if p := inclusion(t, l, x.i, x.n); !slices.Equal(p, want) {
			t.Errorf("%d in %d: %x", x.i, x.n, p)
		}
	}
}

func TestInclusionOfEveryLeaf(t *testing.T) {
	l := someLeaves(9, most+3)
	for n := range most + 1 {
		for i := range n {
			want := partners(l[:n], i)
			if !slices.Equal(inclusion(t, l, i, n), want) || !slices.Equal(inclusion(t, l[:n], i, n), want) {
				t.Fatal(i, n)
			}
		}
	}
}

func TestInclusionInOneLeaf(t *testing.T) {
	l := someLeaves(10, 3)
	for n := 1; n <= 3; n++ {
		if p := inclusion(t, l[:n], 0, 1); len(p) != 0 {
			t.Error(n, len(p))
		}
	}
}

func TestInclusionOutsideTheRange(t *testing.T) {
	l := someLeaves(11, 5)
	numbers := []int{math.MinInt, math.MinInt + 1, -6, -1, 0, 1, 2, 4, 5, 6, 7, 1 << 32, math.MaxInt - 1, math.MaxInt}
	for _, i := range numbers {
		for _, n := range numbers {
			good := 1 <= n && n <= 5 && 0 <= i && i < n
			p, e := Inclusion(l, i, n)
			if good && e != api.OK || !good && (e != api.ErrRange || p != nil) {
				t.Error(i, n, len(p), e)
			}
			if p, e := Inclusion(nil, i, n); e != api.ErrRange || p != nil {
				t.Error("of none", i, n, len(p), e)
			}
		}
	}
}

// P4.4

func TestConsistencyOfFewLeaves(t *testing.T) {
	l := someLeaves(12, 7)
	a, b, c, d, e, f, g := l[0], l[1], l[2], l[3], l[4], l[5], l[6]
	ab, cd, ef := Node(a, b), Node(c, d), Node(e, f)
	for _, x := range []struct {
		m, n int
		want []api.Digest
	}{
		{1, 1, nil}, {1, 2, []api.Digest{b}}, {2, 2, nil},
		{1, 3, []api.Digest{b, c}}, {2, 3, []api.Digest{c}}, {3, 3, nil},
		{2, 4, []api.Digest{cd}}, {3, 4, []api.Digest{c, d, ab}},
		{3, 7, []api.Digest{c, d, ab, Node(ef, g)}}, {4, 7, []api.Digest{Node(ef, g)}},
		{5, 7, []api.Digest{e, f, g, Node(ab, cd)}}, {6, 7, []api.Digest{ef, g, Node(ab, cd)}}, {7, 7, nil},
	} {
		if p := consistency(t, l, x.m, x.n); !slices.Equal(p, x.want) {
			t.Errorf("%d and %d: %x", x.m, x.n, p)
		}
	}
}

func TestConsistencyOfEveryPairOfSizes(t *testing.T) {
	l := someLeaves(13, most+3)
	for n := range most + 1 {
		for m := 1; m <= n; m++ {
			want := subproof(l[:n], m, true)
			if !slices.Equal(consistency(t, l, m, n), want) || !slices.Equal(consistency(t, l[:n], m, n), want) {
				t.Fatal(m, n)
			}
		}
	}
}

func TestConsistencyOutsideTheRange(t *testing.T) {
	l := someLeaves(14, 5)
	numbers := []int{math.MinInt, math.MinInt + 1, -6, -1, 0, 1, 2, 4, 5, 6, 7, 1 << 32, math.MaxInt - 1, math.MaxInt}
	for _, m := range numbers {
		for _, n := range numbers {
			good := 1 <= m && m <= n && n <= 5
			p, e := Consistency(l, m, n)
			if good && e != api.OK || !good && (e != api.ErrRange || p != nil) {
				t.Error(m, n, len(p), e)
			}
			if p, e := Consistency(nil, m, n); e != api.ErrRange || p != nil {
				t.Error("of none", m, n, len(p), e)
			}
		}
	}
}

// P4.5

// folded tells the root that a leaf's digest and its proof make: on each level the partner stands on the side that the index tells, and where the leaf's part is the last one and has none, it goes up alone.
func folded(leaf api.Digest, i, n int, path []api.Digest) (api.Digest, bool) {
	d, last := leaf, n-1
	for ; last > 0; i, last = i/2, last/2 {
		if i%2 == 0 && i == last {
			continue
		}
		if len(path) == 0 {
			return api.Digest{}, false
		}
		if i%2 == 1 {
			d = theLibrarys(path[0], d)
		} else {
			d = theLibrarys(d, path[0])
		}
		path = path[1:]
	}
	return d, len(path) == 0
}

func TestAProofFoldedIsTheRoot(t *testing.T) {
	l := someLeaves(15, 130)
	for _, n := range slices.Concat(upTo(most), []int{63, 64, 65, 127, 128, 129, 130}) {
		root := Root(l[:n])
		for i := range n {
			if d, all := folded(l[i], i, n, inclusion(t, l, i, n)); d != root || !all {
				t.Fatal(i, n, all)
			}
		}
	}
}

func TestAProofIsNoLongerThanTheBits(t *testing.T) {
	l := someLeaves(16, 130)
	for n := 1; n <= len(l); n++ {
		longest := 0
		for i := range n {
			longest = max(longest, len(inclusion(t, l, i, n)))
		}
		if longest != bits.Len(uint(n-1)) {
			t.Error(n, longest)
		}
	}
}

// P4.6

// bothRoots tells the roots that a consistency proof makes, the older root being in front where m is a power of two.
func bothRoots(m, n int, path []api.Digest) (older, newer api.Digest, whole bool) {
	at, last := m-1, n-1
	for at%2 == 1 {
		at, last = at/2, last/2
	}
	if len(path) == 0 {
		return older, newer, false
	}
	older, newer = path[0], path[0]
	for _, d := range path[1:] {
		for at%2 == 0 && at == last && last > 0 {
			at, last = at/2, last/2
		}
		if last == 0 {
			return older, newer, false
		}
		if at%2 == 1 {
			older, newer = theLibrarys(d, older), theLibrarys(d, newer)
		} else {
			newer = theLibrarys(newer, d)
		}
		at, last = at/2, last/2
	}
	return older, newer, last == 0
}

func TestAProofMakesBothRoots(t *testing.T) {
	l := someLeaves(17, 65)
	for _, n := range slices.Concat(upTo(most), []int{63, 64, 65}) {
		for m := 1; m < n; m++ {
			path := consistency(t, l, m, n)
			if bits.OnesCount(uint(m)) == 1 {
				path = slices.Insert(path, 0, Root(l[:m]))
			}
			older, newer, whole := bothRoots(m, n, path)
			if older != Root(l[:m]) || newer != Root(l[:n]) || !whole {
				t.Fatal(m, n, whole)
			}
		}
	}
}

func TestThePowerOfTwosRootIsLeftOut(t *testing.T) {
	l := someLeaves(18, most)
	for m := 1; m <= most; m *= 2 {
		for n := m; n <= most; n++ {
			if slices.Contains(consistency(t, l, m, n), Root(l[:m])) {
				t.Error(m, n)
			}
		}
	}
}

// P4.7

func TestTheProofOfASizeAndItselfIsEmpty(t *testing.T) {
	l := someLeaves(19, most)
	for n := 1; n <= most; n++ {
		if p := consistency(t, l, n, n); len(p) != 0 {
			t.Error(n, len(p))
		}
	}
}

func TestOneLeafMore(t *testing.T) {
	l := someLeaves(20, 131)
	for n := range 130 {
		var peaks []api.Digest
		for at := 0; at < n; {
			size := 1 << (bits.Len(uint(n-at)) - 1)
			peaks = append(peaks, sub(t, l, at, at+size))
			at += size
		}
		// Those that the new leaf makes twice as great go first, and the others behind: from the right to the left it is the same.
		d := l[n]
		for _, p := range slices.Backward(peaks) {
			d = Node(p, d)
		}
		if Root(l[:n+1]) != d {
			t.Error(n)
		}
	}
}

func upTo(n int) []int {
	var out []int
	for i := range n {
		out = append(out, i+1)
	}
	return out
}

// Rule 4

// inMidst tells digests with room ahead and behind that must stay as it is.
func inMidst(l []api.Digest) (whole, part []api.Digest) {
	whole = slices.Concat([]api.Digest{{7}, {8}}, l, slices.Repeat([]api.Digest{{9}}, 70))
	return whole, whole[2 : 2+len(l)]
}

func TestWhatIsHandedInStaysAsItIs(t *testing.T) {
	for n := 1; n <= 20; n++ {
		whole, part := inMidst(someLeaves(21, n))
		was := slices.Clone(whole)
		Root(part)
		Root(part[:0])
		for i := range n {
			sub(t, part, 0, i+1)
			sub(t, part, i, n)
			inclusion(t, part, i, n)
			inclusion(t, part, 0, i+1)
			consistency(t, part, i+1, n)
		}
		if !slices.Equal(whole, was) {
			t.Fatal(n)
		}
	}
	for n := range 70 {
		whole := append(someBytes(n), bytes.Repeat([]byte{9}, 100)...)
		was := slices.Clone(whole)
		Leaf(whole[:n])
		if !bytes.Equal(whole, was) {
			t.Fatal(n, "bytes of a leaf")
		}
	}
}

func TestWhatIsBehindTheLengthIsNotRead(t *testing.T) {
	for n := 1; n <= 20; n++ {
		l := someLeaves(23, n)
		_, part := inMidst(l)
		if Root(part) != levelByLevel(l) || Leaf(someBytes(100)[:n]) != Leaf(slices.Clone(someBytes(100)[:n])) {
			t.Error(n)
		}
		if _, e := Sub(part, api.Span{End: n + 1}); e != api.ErrRange {
			t.Error(n, "sub", e)
		}
		if _, e := Inclusion(part, 0, n+1); e != api.ErrRange {
			t.Error(n, "inclusion", e)
		}
		if _, e := Consistency(part, 1, n+1); e != api.ErrRange {
			t.Error(n, "consistency", e)
		}
	}
}

func TestWhatIsHandedOutIsNew(t *testing.T) {
	for n := 1; n <= 20; n++ {
		l := someLeaves(25, n)
		for i := range n {
			for _, told := range []func(*testing.T, []api.Digest, int, int) []api.Digest{
				inclusion,
				func(t *testing.T, l []api.Digest, i, n int) []api.Digest { return consistency(t, l, i+1, n) },
			} {
				one, two := told(t, l, i, n), told(t, l, i, n)
				want := slices.Clone(two)
				for _, d := range one[len(one):cap(one)] {
					if d != (api.Digest{}) {
						t.Fatal(i, n, "something stands in the spare room")
					}
				}
				clear(one[:cap(one)])
				if !slices.Equal(two, want) || !slices.Equal(l, someLeaves(25, n)) || !slices.Equal(told(t, l, i, n), want) {
					t.Fatal(i, n, "what was handed out is shared")
				}
			}
		}
	}
}
