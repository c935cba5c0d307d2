package extract

import (
	"bytes"
	"crypto/sha256"
	"encoding/binary"
	"math"
	"slices"
	"testing"

	"coppice/api"
	"coppice/hash"
	"coppice/tree"
	"coppice/verify"
)

// most is the size up to which all trees, all pairs of their sizes and all their leaves are gone through.
const most = 13

// edges tells numbers at which something could go wrong.
func edges() []int {
	return []int{math.MinInt, math.MinInt + 1, -api.MaxSize, -2, -1, 0, 1, 2, 3, api.MaxSize - 1, api.MaxSize, api.MaxSize + 1, math.MaxInt - 1, math.MaxInt}
}

// someLeaves tells n leaves, all unlike, others for each kind.
func someLeaves(kind byte, n int) [][]byte {
	out := make([][]byte, n)
	for i := range out {
		out[i] = binary.BigEndian.AppendUint32([]byte{kind}, uint32(i))
	}
	return out
}

// someDigests tells n digests, all unlike, others for each kind.
func someDigests(kind byte, n int) []api.Digest {
	out := make([]api.Digest, n)
	for i, leaf := range someLeaves(kind, n) {
		out[i] = sha256.Sum256(leaf)
	}
	return out
}

func digestsOf(leaves [][]byte) []api.Digest {
	out := make([]api.Digest, len(leaves))
	for i, leaf := range leaves {
		out[i] = tree.Leaf(leaf)
	}
	return out
}

// claimOf tells the claim that is true of one log: both leaves are the one at i.
func claimOf(leaves [][]byte, i, m, n int) Claim {
	l := digestsOf(leaves)
	c := Claim{M: m, N: n, Older: tree.Root(l[:m]), Newer: tree.Root(l[:n]), I: i, X: leaves[i], Y: leaves[i]}
	c.Steps, _ = tree.Consistency(l, m, n)
	c.InOlder, _ = tree.Inclusion(l, i, m)
	c.InNewer, _ = tree.Inclusion(l, i, n)
	return c
}

// forkOf tells two proofs of the leaf at i, both true.
func forkOf(leaves [][]byte, i, n int) Fork {
	l := digestsOf(leaves)
	f := Fork{I: i, N: n, Root: tree.Root(l[:n]), X: leaves[i], Y: leaves[i]}
	f.PathX, _ = tree.Inclusion(l, i, n)
	f.PathY = slices.Clone(f.PathX)
	return f
}

// claims goes through the true claims of all sizes up to most.
func claims(yield func(Claim) bool) {
	leaves := someLeaves(1, most)
	for n := 1; n <= most; n++ {
		for m := 1; m <= n; m++ {
			for i := range m {
				if !yield(claimOf(leaves, i, m, n)) {
					return
				}
			}
		}
	}
}

// forks goes through the true forks of all sizes up to most.
func forks(yield func(Fork) bool) {
	leaves := someLeaves(1, most)
	for n := 1; n <= most; n++ {
		for i := range n {
			if !yield(forkOf(leaves, i, n)) {
				return
			}
		}
	}
}

// evenLog is a log of any size whose leaves are all alike, so that roots hang on sizes alone.
type evenLog struct {
	leaf  []byte
	roots map[int]api.Digest
}

func newEvenLog(leaf string) *evenLog {
	return &evenLog{[]byte(leaf), map[int]api.Digest{}}
}

func (g *evenLog) root(n int) api.Digest {
	if d, ok := g.roots[n]; ok {
		return d
	}
	d := tree.Leaf(g.leaf)
	if n > 1 {
		k, _ := tree.Split(n)
		d = tree.Node(g.root(k), g.root(n-k))
	}
	g.roots[n] = d
	return d
}

func (g *evenLog) inclusion(i, n int) []api.Digest {
	if n == 1 {
		return nil
	}
	k, _ := tree.Split(n)
	if i < k {
		return append(g.inclusion(i, k), g.root(n-k))
	}
	return append(g.inclusion(i-k, n-k), g.root(k))
}

func (g *evenLog) consistency(m, n int, whole bool) []api.Digest {
	switch k, _ := tree.Split(n); {
	case m == n && whole:
		return nil
	case m == n:
		return []api.Digest{g.root(m)}
	case m <= k:
		return append(g.consistency(m, k, whole), g.root(n-k))
	default:
		return append(g.consistency(m-k, n-k, false), g.root(k))
	}
}

func (g *evenLog) claim(i, m, n int) Claim {
	return Claim{
		M: m, N: n, Older: g.root(m), Newer: g.root(n), Steps: g.consistency(m, n, true),
		I: i, X: g.leaf, Y: bytes.Clone(g.leaf), InOlder: g.inclusion(i, m), InNewer: g.inclusion(i, n),
	}
}

// greatClaims tells true claims of great sizes, up to MaxSize.
func greatClaims() []Claim {
	g := newEvenLog("even")
	var out []Claim
	for _, n := range []int{1 << 20, 1<<20 + 1, 0x5555_5555_5555, api.MaxSize - 1, api.MaxSize} {
		for _, m := range []int{1, 2, 3, n / 3, n / 2, n/2 + 1, n - 1, n} {
			for _, i := range []int{0, m / 3, m / 2, m - 1} {
				out = append(out, g.claim(i, m, n))
			}
		}
	}
	return out
}

// nothingTold asks that neither call gives anything away.
func nothingTold(t *testing.T, a, b []byte, ok bool) {
	t.Helper()
	if ok || a != nil || b != nil {
		t.Fatalf("%x %x %v", a, b, ok)
	}
}

// changedAt tells the path with one bit of its digest at that place turned round.
func changedAt(path []api.Digest, at int) []api.Digest {
	out := slices.Clone(path)
	out[at][at*7%32] ^= 1 << (at % 8)
	return out
}

// otherPaths tells paths that are not that one: with a digest changed, cut, lengthened, turned round.
func otherPaths(path []api.Digest) [][]api.Digest {
	var out [][]api.Digest
	for at := range path {
		out = append(out, changedAt(path, at))
	}
	for at := range path {
		out = append(out, path[:at])
	}
	if len(path) > 1 {
		round := slices.Clone(path)
		slices.Reverse(round)
		out = append(out, round)
	}
	more := slices.Concat(path, someDigests(9, 1))
	return append(out, more, slices.Concat(path, someDigests(9, api.MaxProof)))
}

// wrongClaims tells claims that are one change away from a true one and are not to be accepted.
func wrongClaims(c Claim) []Claim {
	var out []Claim
	with := func(change func(*Claim)) {
		wrong := c
		change(&wrong)
		out = append(out, wrong)
	}
	with(func(w *Claim) { w.Older[0] ^= 1 })
	with(func(w *Claim) { w.Newer[31] ^= 0x80 })
	with(func(w *Claim) { w.X = append(bytes.Clone(c.X), 0) })
	with(func(w *Claim) { w.Y = append(bytes.Clone(c.Y), 0) })
	with(func(w *Claim) { w.X = nil })
	with(func(w *Claim) { w.Y = nil })
	with(func(w *Claim) { w.I = -1 })
	with(func(w *Claim) { w.I = c.M })
	with(func(w *Claim) { w.M = 0 })
	with(func(w *Claim) { w.M = c.N + 1 })
	with(func(w *Claim) { w.N = c.M - 1 })
	for _, path := range otherPaths(c.Steps) {
		with(func(w *Claim) { w.Steps = path })
	}
	for _, path := range otherPaths(c.InOlder) {
		with(func(w *Claim) { w.InOlder = path })
	}
	for _, path := range otherPaths(c.InNewer) {
		with(func(w *Claim) { w.InNewer = path })
	}
	return out
}

// P9.1

func TestLeafPreimage(t *testing.T) {
	long := bytes.Repeat([]byte{0, 1, 255}, api.MaxLeaf/3+10)
	for _, data := range [][]byte{nil, {}, {0}, {1}, []byte("x"), bytes.Repeat([]byte{7}, 64), long[:api.MaxLeaf], long} {
		got := LeafPreimage(data)
		if len(got) != 1+len(data) || got[0] != 0 || !bytes.Equal(got[1:], data) {
			t.Errorf("%d bytes: %d", len(data), len(got))
		}
		if hash.Sum(got) != tree.Leaf(data) {
			t.Errorf("%d bytes: another digest", len(data))
		}
	}
}

func TestPreimage(t *testing.T) {
	some := append(someDigests(1, 3), api.Digest{}, tree.Empty())
	for _, l := range some {
		for _, r := range some {
			got := Preimage(l, r)
			if len(got) != 65 || got[0] != 1 || !bytes.Equal(got[1:33], l[:]) || !bytes.Equal(got[33:], r[:]) {
				t.Errorf("%x", got)
			}
			if hash.Sum(got) != tree.Node(l, r) {
				t.Error("another digest")
			}
		}
	}
}

// P9.2

func TestTrueClaimsAreAccepted(t *testing.T) {
	for c := range claims {
		if !Accepted(c) {
			t.Fatal(c.I, c.M, c.N)
		}
	}
	for _, c := range greatClaims() {
		if !Accepted(c) {
			t.Fatal("great", c.I, c.M, c.N)
		}
	}
}

func TestWrongClaimsAreNotAccepted(t *testing.T) {
	for c := range claims {
		for at, wrong := range wrongClaims(c) {
			if Accepted(wrong) {
				t.Fatal(c.I, c.M, c.N, at)
			}
		}
	}
}

// Each of the three checks is the only one that fails.
func TestEachOfTheThreeChecksCounts(t *testing.T) {
	for c := range claims {
		other := claimOf(someLeaves(2, most), c.I, c.M, c.N)
		noStep := c
		noStep.Newer, noStep.Y, noStep.InNewer = other.Newer, other.Y, other.InNewer
		noOlder := c
		noOlder.X = other.X
		noNewer := c
		noNewer.Y = other.Y
		for at, wrong := range []Claim{noStep, noOlder, noNewer} {
			fails := []bool{
				verify.Consistency(wrong.M, wrong.N, wrong.Older, wrong.Newer, wrong.Steps) != api.OK,
				verify.Inclusion(tree.Leaf(wrong.X), wrong.I, wrong.M, wrong.InOlder, wrong.Older) != api.OK,
				verify.Inclusion(tree.Leaf(wrong.Y), wrong.I, wrong.N, wrong.InNewer, wrong.Newer) != api.OK,
			}
			for check, failed := range fails {
				if failed != (check == at) {
					t.Fatal(c.I, c.M, c.N, at, fails)
				}
			}
			if Accepted(wrong) {
				t.Fatal(c.I, c.M, c.N, at)
			}
			a, b, ok := Extract(wrong)
			nothingTold(t, a, b, ok)
		}
	}
}

// The leaf is looked for in the older tree by the older size, in the newer one by the newer size.
func TestLeavesBehindTheOlderTree(t *testing.T) {
	leaves := someLeaves(1, most)
	for c := range claims {
		for i := c.M; i < c.N; i++ {
			wrong := c
			wrong.I, wrong.Y = i, leaves[i]
			wrong.InNewer, _ = tree.Inclusion(digestsOf(leaves), i, c.N)
			if Accepted(wrong) {
				t.Fatal(i, c.M, c.N)
			}
			wrong.X, wrong.InOlder = wrong.Y, wrong.InNewer
			if Accepted(wrong) {
				t.Fatal(i, c.M, c.N)
			}
		}
	}
}

func TestNumbersOutsideTheirRange(t *testing.T) {
	x := tree.Leaf([]byte("x"))
	many := someDigests(3, api.MaxProof+1)
	for _, m := range edges() {
		for _, n := range edges() {
			for _, i := range edges() {
				for _, count := range []int{0, 1, 2, 47, 48, 49, len(many)} {
					c := Claim{M: m, N: n, Older: x, Newer: x, Steps: many[:count], I: i, X: []byte("x"), Y: []byte("x"), InOlder: many[:count], InNewer: many[:count]}
					if want := m == 1 && n == 1 && i == 0 && count == 0; Accepted(c) != want {
						t.Fatal(i, m, n, count)
					}
					c.Y = []byte("y")
					a, b, ok := Extract(c)
					nothingTold(t, a, b, ok)
					a, b, ok = Parted(Fork{I: i, N: n, Root: x, X: c.X, Y: c.Y, PathX: many[:count], PathY: many[:count]})
					nothingTold(t, a, b, ok)
				}
			}
		}
	}
}

func TestTheEmptyClaim(t *testing.T) {
	if Accepted(Claim{}) {
		t.Error("accepted")
	}
	a, b, ok := Extract(Claim{})
	nothingTold(t, a, b, ok)
	a, b, ok = Parted(Fork{})
	nothingTold(t, a, b, ok)
	none := tree.Empty()
	if Accepted(Claim{Older: none, Newer: none}) {
		t.Error("a tree of no leaves has none at any place")
	}
}

func TestLeavesOfAnyLength(t *testing.T) {
	for _, size := range []int{0, 1, 63, 64, 65, api.MaxLeaf, api.MaxLeaf + 1} {
		leaves := someLeaves(4, 3)
		leaves[1] = bytes.Repeat([]byte{1}, size)
		c := claimOf(leaves, 1, 2, 3)
		if !Accepted(c) {
			t.Error(size)
		}
	}
}

// P9.3, P9.4, P9.5: with SHA-256 nobody knows two unlike byte strings of one digest, so nothing is ever told; what is told where there are some, the tests of weak_test.go look at.

func TestNothingIsToldOfOneLeaf(t *testing.T) {
	for c := range claims {
		c.Y = bytes.Clone(c.X)
		a, b, ok := Extract(c)
		nothingTold(t, a, b, ok)
	}
	for _, c := range greatClaims() {
		a, b, ok := Extract(c)
		nothingTold(t, a, b, ok)
	}
	for f := range forks {
		f.Y = bytes.Clone(f.X)
		a, b, ok := Parted(f)
		nothingTold(t, a, b, ok)
	}
}

func TestNothingIsToldOfWhatIsNotAccepted(t *testing.T) {
	for c := range claims {
		for _, wrong := range wrongClaims(c) {
			a, b, ok := Extract(wrong)
			nothingTold(t, a, b, ok)
			wrong.Y = []byte("another")
			a, b, ok = Extract(wrong)
			nothingTold(t, a, b, ok)
		}
	}
}

func TestNothingIsToldOfForksThatAreNotAccepted(t *testing.T) {
	for f := range forks {
		var wrong []Fork
		with := func(change func(*Fork)) {
			w := f
			change(&w)
			wrong = append(wrong, w)
		}
		with(func(w *Fork) { w.Y = []byte("another") })
		with(func(w *Fork) { w.X = []byte("another") })
		with(func(w *Fork) { w.X, w.Y = []byte("one"), []byte("another") })
		with(func(w *Fork) { w.Y = nil })
		for _, path := range otherPaths(f.PathX) {
			with(func(w *Fork) { w.X, w.PathX = []byte("another"), path })
			with(func(w *Fork) { w.Y, w.PathY = []byte("another"), path })
		}
		for _, w := range wrong {
			a, b, ok := Parted(w)
			nothingTold(t, a, b, ok)
		}
	}
}

func TestNoLeafNilAndEmptyAreAlike(t *testing.T) {
	d := tree.Leaf(nil)
	c := Claim{M: 1, N: 1, Older: d, Newer: d, X: nil, Y: []byte{}, Steps: []api.Digest{}, InOlder: []api.Digest{}}
	if !Accepted(c) {
		t.Error("accepted")
	}
	a, b, ok := Extract(c)
	nothingTold(t, a, b, ok)
	a, b, ok = Parted(Fork{N: 1, Root: d, X: []byte{}, PathX: []api.Digest{}})
	nothingTold(t, a, b, ok)
}

// What is rehashed is what the checks hash.

func TestInclusionIsRehashed(t *testing.T) {
	some := someDigests(5, 60)
	look := func(data []byte, i, n int) {
		t.Helper()
		length, _ := verify.Length(i, n)
		var hashed [][]byte
		got := rehashInclusion(func(b []byte) api.Digest {
			hashed = append(hashed, b)
			return hash.Sum(b)
		}, data, i, n, some[:length])
		want, e := verify.Root(tree.Leaf(data), i, n, some[:length])
		if e != api.OK || got != want || len(hashed) != 1+length || !bytes.Equal(hashed[0], LeafPreimage(data)) {
			t.Fatal(i, n, e, len(hashed))
		}
	}
	for n := 1; n <= 40; n++ {
		for i := range n {
			look([]byte{byte(i)}, i, n)
		}
	}
	for _, c := range greatClaims() {
		look(c.X, c.I, c.M)
		look(nil, c.I, c.N)
	}
}

func TestConsistencyIsRehashed(t *testing.T) {
	some := someDigests(6, 60)
	look := func(m, n int) {
		t.Helper()
		steps, _ := verify.Steps(m, n)
		older, newer := rehashConsistency(hash.Sum, some[59], m, n, some[:steps])
		wantOlder, wantNewer, e := verify.Roots(some[59], m, n, some[:steps])
		if e != api.OK || older != wantOlder || newer != wantNewer {
			t.Fatal(m, n, e)
		}
	}
	for n := 1; n <= 70; n++ {
		for m := 1; m <= n; m++ {
			look(m, n)
		}
	}
	for _, c := range greatClaims() {
		look(c.M, c.N)
	}
}

// What a book keeps.

func TestBookTellsTheFirstTwoUnlikeOnesOfADigest(t *testing.T) {
	k := &book{kept: map[api.Digest][]byte{}}
	for at, x := range []struct {
		d     byte
		data  string
		found bool
	}{{1, "a", false}, {2, "b", false}, {1, "a", false}, {2, "b", false}, {3, "a", false}, {2, "c", true}, {1, "d", true}, {2, "b", true}} {
		k.keep(api.Digest{x.d}, []byte(x.data))
		if k.found != x.found {
			t.Error(at, k.found)
		}
	}
	if string(k.a) != "b" || string(k.b) != "c" {
		t.Errorf("%s %s", k.a, k.b)
	}
}

func TestCollisionOfStringsWithoutOne(t *testing.T) {
	a, b, ok := collision(func(sum summer) {
		for _, leaf := range slices.Concat(someLeaves(7, 50), someLeaves(7, 50)) {
			if sum(leaf) != sha256.Sum256(leaf) {
				t.Error("another digest")
			}
		}
	})
	nothingTold(t, a, b, ok)
}

// Rules 4 and 8.

func TestPreimagesAreNewMemory(t *testing.T) {
	data := append(make([]byte, 0, 16), "leaf"...)
	got := LeafPreimage(data)
	for i := range got {
		got[i] = 0xee
	}
	_ = append(got, 0xee)
	if string(data) != "leaf" || !bytes.Equal(data[4:16], make([]byte, 12)) {
		t.Errorf("%q", data[:16])
	}
	l := api.Digest{1}
	one, other := Preimage(l, l), Preimage(l, l)
	one[1] = 0xee
	if other[1] != 1 || l[0] != 1 {
		t.Error("shared")
	}
}

func TestWhatIsHandedInStays(t *testing.T) {
	for c := range claims {
		spare := c
		spare.X = append(bytes.Clone(c.X), 1, 2, 3)[:len(c.X)]
		spare.Y = append(bytes.Clone(c.Y), 4, 5, 6)[:len(c.Y)]
		more := someDigests(8, 2)
		spare.Steps = slices.Concat(c.Steps, more)[:len(c.Steps)]
		spare.InOlder = slices.Concat(c.InOlder, more)[:len(c.InOlder)]
		spare.InNewer = slices.Concat(c.InNewer, more)[:len(c.InNewer)]
		if !Accepted(spare) {
			t.Fatal("spare room is read")
		}
		Extract(spare)
		Parted(Fork{I: c.I, N: c.N, Root: c.Newer, X: spare.X, Y: spare.Y, PathX: spare.InNewer, PathY: spare.InNewer})
		if !bytes.Equal(spare.X, c.X) || !bytes.Equal(spare.Y, c.Y) || !slices.Equal(spare.Steps, c.Steps) || !slices.Equal(spare.InOlder, c.InOlder) || !slices.Equal(spare.InNewer, c.InNewer) {
			t.Fatal(c.I, c.M, c.N, "changed")
		}
		size := len(c.X)
		if !bytes.Equal(spare.X[size:size+3], []byte{1, 2, 3}) || !bytes.Equal(spare.Y[size:size+3], []byte{4, 5, 6}) {
			t.Fatal("spare bytes changed")
		}
		for _, path := range [][]api.Digest{spare.Steps, spare.InOlder, spare.InNewer} {
			if !slices.Equal(path[len(path):len(path)+2], more) {
				t.Fatal("spare digests changed")
			}
		}
	}
}
