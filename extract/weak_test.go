package extract

import (
	"bytes"
	"crypto/sha256"
	"encoding/json"
	"math/rand"
	"os"
	"os/exec"
	"path/filepath"
	"slices"
	"strconv"
	"strings"
	"testing"

	"coppice/api"
	"coppice/hash"
	"coppice/tree"
	"coppice/verify"
)

// Nobody knows two unlike byte strings of one digest of SHA-256. So the tests of this file are run once more with package hash overlaid by one whose digests have but a few bits: there claims about unlike leaves are found that are accepted.

// weakHash is that package, but for the number of bits that its digests keep, which is put in place of BITS.
const weakHash = `package hash

import "coppice/api"

func Sum(b []byte) api.Digest {
	h := uint64(14695981039346656037)
	for _, x := range b {
		h = (h ^ uint64(x)) * 1099511628211
	}
	h = (h ^ h>>29) * 0xbf58476d1ce4e5b9
	h = (h ^ h>>32) >> 48 & (1<<BITS - 1)
	return api.Digest{0: byte(h >> 8), 31: byte(h)}
}
`

const maxTries = 1 << 21

func isWeak() bool { return hash.Sum(nil) != sha256.Sum256(nil) }

func onlyWeak(t *testing.T) {
	t.Helper()
	if !isWeak() {
		t.Skip("run by TestUnderWeakHashes")
	}
}

func TestUnderWeakHashes(t *testing.T) {
	if isWeak() {
		t.Skip("it is one")
	}
	tool, err := exec.LookPath("go")
	if err != nil {
		t.Skip("without the go tool no package can be overlaid")
	}
	strong, err := filepath.Abs("../hash/hash.go")
	if err != nil {
		t.Fatal(err)
	}
	for _, bits := range []int{0, 10, 13} {
		t.Run(strconv.Itoa(bits), func(t *testing.T) {
			t.Parallel()
			dir := t.TempDir()
			weak, overlay := filepath.Join(dir, "hash.go"), filepath.Join(dir, "overlay.json")
			text, _ := json.Marshal(map[string]map[string]string{"Replace": {strong: weak}})
			if err := os.WriteFile(weak, []byte(strings.ReplaceAll(weakHash, "BITS", strconv.Itoa(bits))), 0o644); err != nil {
				t.Fatal(err)
			}
			if err := os.WriteFile(overlay, text, 0o644); err != nil {
				t.Fatal(err)
			}
			out, err := exec.Command(tool, "test", "-count=1", "-v", "-overlay="+overlay, "-run=^TestWeak", ".").CombinedOutput()
			if err != nil || bytes.Contains(out, []byte("--- SKIP")) || !bytes.Contains(out, []byte("--- PASS: TestWeak")) {
				t.Errorf("%v\n%s", err, out)
			}
		})
	}
}

// chance is a source of what is tried, the same in each run.
type chance struct{ *rand.Rand }

func newChance(seed int64) chance { return chance{rand.New(rand.NewSource(seed))} }

func (r chance) leaf() []byte {
	out := make([]byte, r.Intn(9))
	r.Read(out)
	return out
}

func (r chance) leaves(n int) [][]byte {
	out := make([][]byte, n)
	for i := range out {
		out[i] = r.leaf()
	}
	return out
}

func (r chance) digest() api.Digest {
	var d api.Digest
	r.Read(d[:])
	return d
}

func (r chance) digests(n int) []api.Digest {
	out := make([]api.Digest, n)
	for i := range out {
		out[i] = r.digest()
	}
	return out
}

// find goes on trying until it is met.
func find(t *testing.T, try func() bool) {
	t.Helper()
	for range maxTries {
		if try() {
			return
		}
	}
	t.Fatal("nothing was found")
}

// another finds a leaf unlike that one and a path, of which the first few digests are others, that lead to the root.
func (r chance) another(t *testing.T, leaf []byte, i, n int, path []api.Digest, few int, root api.Digest) (other []byte, way []api.Digest) {
	t.Helper()
	way = slices.Clone(path)
	find(t, func() bool {
		other = r.leaf()
		copy(way, r.digests(few))
		return !bytes.Equal(leaf, other) && verify.Inclusion(tree.Leaf(other), i, n, way, root) == api.OK
	})
	return other, way
}

// ofOlder tells which digests of a consistency proof the older root is made of, by the words of layer 7.
func ofOlder(m, n int, fromNought bool) []bool {
	switch k, _ := tree.Split(n); {
	case m == n && fromNought:
		return nil
	case m == n:
		return []bool{true}
	case m <= k:
		return append(ofOlder(m, k, fromNought), false)
	default:
		return append(ofOlder(m-k, n-k, false), true)
	}
}

// steps finds a proof that leads to both roots, of m below n.
func (r chance) steps(t *testing.T, m, n int, older, newer api.Digest) []api.Digest {
	t.Helper()
	path := make([]api.Digest, len(ofOlder(m, n, true)))
	draw := func(which bool) {
		for at, its := range ofOlder(m, n, true) {
			if its == which {
				path[at] = r.digest()
			}
		}
	}
	find(t, func() bool {
		draw(true)
		if got, _, e := verify.Roots(older, m, n, path); e != api.OK || got != older {
			return false
		}
		// With some of the digests that lead to the older root no others lead to the newer one.
		for range 1 << 15 {
			draw(false)
			if verify.Consistency(m, n, older, newer, path) == api.OK {
				return true
			}
		}
		return false
	})
	return path
}

// given asks that a claim is accepted and gives away two unlike byte strings of one digest.
func given(t *testing.T, c Claim) {
	t.Helper()
	if !Accepted(c) || bytes.Equal(c.X, c.Y) {
		t.Fatal("a claim that does not fit the test", c.I, c.M, c.N)
	}
	a, b, ok := Extract(c)
	collide(t, a, b, ok)
	keptApart(t, a, b, c.X, c.Y)
	like := c
	like.X, like.InOlder, like.M, like.Older, like.Steps = c.Y, c.InNewer, c.N, c.Newer, nil
	if !Accepted(like) {
		t.Fatal("a claim of one leaf", c.I, c.M, c.N)
	}
	a, b, ok = Extract(like)
	nothingTold(t, a, b, ok)
}

// givenByFork asks the same of a fork.
func givenByFork(t *testing.T, f Fork) {
	t.Helper()
	a, b, ok := Parted(f)
	collide(t, a, b, ok)
	keptApart(t, a, b, f.X, f.Y)
}

func collide(t *testing.T, a, b []byte, ok bool) {
	t.Helper()
	if !ok || bytes.Equal(a, b) || hash.Sum(a) != hash.Sum(b) {
		t.Fatalf("%x %x %v", a, b, ok)
	}
}

// keptApart asks that what was told shares no memory with the leaves, nor with one another.
func keptApart(t *testing.T, a, b, x, y []byte) {
	t.Helper()
	b0, x0, y0 := bytes.Clone(b), bytes.Clone(x), bytes.Clone(y)
	turn := func(l []byte) {
		l = l[:cap(l)]
		for i := range l {
			l[i] ^= 0xff
		}
	}
	turn(a)
	if !bytes.Equal(b, b0) {
		t.Fatal("the two share memory")
	}
	turn(b)
	if !bytes.Equal(x, x0) || !bytes.Equal(y, y0) {
		t.Fatal("a leaf's memory is told")
	}
}

// place is a leaf's index, and the sizes of both trees.
type place struct{ i, m, n int }

func places() []place {
	return []place{
		{0, 1, 1}, {0, 1, 2}, {1, 2, 2}, {0, 2, 3}, {2, 3, 3}, {1, 3, 4}, {2, 3, 4}, {0, 3, 5}, {3, 4, 5}, {4, 5, 7}, {2, 6, 7},
		{5, 6, 7}, {6, 7, 7}, {0, 7, 8}, {7, 8, 8}, {3, 5, 9}, {8, 9, 13}, {4, 7, 13}, {6, 7, 13}, {10, 11, 13}, {9, 12, 13},
	}
}

func greatPlaces() []place {
	const n = api.MaxSize
	return []place{{0, 1, n}, {n/2 - 1, n / 2, n}, {n / 2, n/2 + 1, n}, {n / 3, n - 1, n - 1}, {n - 1<<44 - 1, n - 1<<44, n}, {1, n / 3, n - 1}, {n - 1, n, n}}
}

// P9.3, and P9.5: whatever is accepted of unlike leaves has two unlike byte strings of one digest.

func TestWeakLeafInTheNewerTree(t *testing.T) {
	onlyWeak(t)
	r := newChance(1)
	for _, p := range places() {
		c := claimOf(r.leaves(p.n), p.i, p.m, p.n)
		for few := range len(c.InNewer) + 1 {
			d := c
			d.Y, d.InNewer = r.another(t, c.X, p.i, p.n, c.InNewer, few, c.Newer)
			given(t, d)
		}
	}
}

func TestWeakLeafInTheOlderTree(t *testing.T) {
	onlyWeak(t)
	r := newChance(2)
	for _, p := range places() {
		c := claimOf(r.leaves(p.n), p.i, p.m, p.n)
		for few := range len(c.InOlder) + 1 {
			d := c
			d.X, d.InOlder = r.another(t, c.Y, p.i, p.m, c.InOlder, few, c.Older)
			given(t, d)
		}
	}
}

// Two logs that have nothing in common, their own proofs, and steps that lead from one to the other.
func TestWeakSteps(t *testing.T) {
	onlyWeak(t)
	r := newChance(3)
	for _, p := range places() {
		if p.m == p.n {
			continue
		}
		for range 3 {
			one, other := r.leaves(p.n), r.leaves(p.n)
			other[p.i] = append(bytes.Clone(one[p.i]), 1)
			c, d := claimOf(one, p.i, p.m, p.n), claimOf(other, p.i, p.m, p.n)
			c.Newer, c.Y, c.InNewer = d.Newer, d.Y, d.InNewer
			c.Steps = r.steps(t, p.m, p.n, c.Older, c.Newer)
			given(t, c)
		}
	}
}

// Two logs of one size and one root.
func TestWeakRoots(t *testing.T) {
	onlyWeak(t)
	r := newChance(4)
	for _, p := range places() {
		c := claimOf(r.leaves(p.m), p.i, p.m, p.m)
		find(t, func() bool {
			d := claimOf(r.leaves(p.m), p.i, p.m, p.m)
			c.Newer, c.Y, c.InNewer = d.Newer, d.Y, d.InNewer
			return c.Older == c.Newer && !bytes.Equal(c.X, c.Y)
		})
		given(t, c)
	}
}

func TestWeakClaimsOfGreatTrees(t *testing.T) {
	onlyWeak(t)
	r := newChance(5)
	for _, p := range greatPlaces() {
		g := newEvenLog("even")
		c := g.claim(p.i, p.m, p.n)
		for _, few := range []int{0, 1, len(c.InNewer) / 2, len(c.InNewer)} {
			d := c
			d.Y, d.InNewer = r.another(t, c.X, p.i, p.n, c.InNewer, few, c.Newer)
			given(t, d)
		}
		if p.m < p.n {
			h := newEvenLog("other").claim(p.i, p.m, p.n)
			c.Newer, c.Y, c.InNewer = h.Newer, h.Y, h.InNewer
			c.Steps = r.steps(t, p.m, p.n, c.Older, c.Newer)
			given(t, c)
		}
	}
}

func TestWeakClaimsOfOneLeafTellNothing(t *testing.T) {
	onlyWeak(t)
	r := newChance(6)
	for _, p := range places() {
		c := claimOf(r.leaves(p.n), p.i, p.m, p.n)
		a, b, ok := Extract(c)
		nothingTold(t, a, b, ok)
		f := forkOf(r.leaves(p.n), p.i, p.n)
		if len(c.InNewer) == 0 {
			continue
		}
		// One leaf by two proofs: there are two unlike byte strings of one digest, and yet nothing is asked for.
		find(t, func() bool {
			c.InNewer = r.digests(len(c.InNewer))
			return Accepted(c)
		})
		a, b, ok = Extract(c)
		nothingTold(t, a, b, ok)
		find(t, func() bool {
			f.PathY = r.digests(len(f.PathY))
			return verify.Inclusion(tree.Leaf(f.Y), f.I, f.N, f.PathY, f.Root) == api.OK
		})
		a, b, ok = Parted(f)
		nothingTold(t, a, b, ok)
	}
}

func TestWeakClaimsThatAreNotAcceptedTellNothing(t *testing.T) {
	onlyWeak(t)
	r := newChance(7)
	for _, p := range places() {
		c := claimOf(r.leaves(p.n), p.i, p.m, p.n)
		c.Y, c.InNewer = r.another(t, c.X, p.i, p.n, c.InNewer, 0, c.Newer)
		for _, wrong := range wrongClaims(c) {
			if !Accepted(wrong) {
				a, b, ok := Extract(wrong)
				nothingTold(t, a, b, ok)
			}
		}
		f := Fork{p.i, p.n, c.Newer, c.X, c.Y, c.InNewer, c.InNewer}
		givenByFork(t, f)
		for _, path := range otherPaths(c.InNewer) {
			asX, asY := f, f
			asX.PathX, asY.PathY = path, path
			if verify.Inclusion(tree.Leaf(f.X), p.i, p.n, path, f.Root) != api.OK {
				a, b, ok := Parted(asX)
				nothingTold(t, a, b, ok)
			}
			if verify.Inclusion(tree.Leaf(f.Y), p.i, p.n, path, f.Root) != api.OK {
				a, b, ok := Parted(asY)
				nothingTold(t, a, b, ok)
			}
		}
	}
}

// P9.4

func TestWeakForks(t *testing.T) {
	onlyWeak(t)
	r := newChance(8)
	for _, p := range slices.Concat(places(), greatPlaces()) {
		length, _ := verify.Length(p.i, p.n)
		f := Fork{I: p.i, N: p.n, X: r.leaf(), PathX: r.digests(length)}
		f.Root, _ = verify.Root(tree.Leaf(f.X), p.i, p.n, f.PathX)
		for _, few := range []int{0, 1, length / 2, length} {
			if few <= length {
				f.Y, f.PathY = r.another(t, f.X, p.i, p.n, f.PathX, few, f.Root)
				givenByFork(t, f)
				givenByFork(t, Fork{f.I, f.N, f.Root, f.Y, f.X, f.PathY, f.PathX})
			}
		}
	}
}
