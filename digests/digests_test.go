package digests

import (
	"bytes"
	"crypto/sha256"
	"encoding/binary"
	"fmt"
	"maps"
	"math"
	"math/bits"
	"reflect"
	"slices"
	"testing"

	"coppice/api"
)

// numbered tells a digest, another one for each number, in no order that the numbers show.
func numbered(n int) api.Digest {
	return sha256.Sum256(binary.BigEndian.AppendUint64(nil, uint64(n)))
}

// with tells the digest that is all noughts but for one byte.
func with(at int, b byte) (d api.Digest) {
	d[at] = b
	return d
}

// neighbours tells, in no order, digests of which many differ in one byte alone, and those at the ends.
func neighbours() (l []api.Digest) {
	for at := range 32 {
		for _, b := range []byte{1, 2, 127, 128, 129, 254, 255} {
			l = append(l, with(at, b))
		}
	}
	last := api.Digest(bytes.Repeat([]byte{255}, 32))
	l = append(l, api.Digest{}, last)
	last[31]--
	return append(l, last)
}

// want fails unless an error is the one that is asked for.
func want(t *testing.T, what string, got, e api.Errno) {
	t.Helper()
	if got != e {
		t.Fatalf("%s: %d, not %d", what, int(got), int(e))
	}
}

func put(t *testing.T, x *Index, d api.Digest, place int) {
	t.Helper()
	want(t, fmt.Sprintf("Add %x %d", d, place), x.Add(d, place), api.OK)
}

// indexOf tells the index of digests, each with its place in the list.
func indexOf(t *testing.T, l []api.Digest) *Index {
	t.Helper()
	x := New()
	for i, d := range l {
		put(t, x, d, i)
	}
	return x
}

// digestsOf tells the digests with the numbers from 0 up to (without) another.
func digestsOf(n int) (l []api.Digest) {
	for i := range n {
		l = append(l, numbered(i))
	}
	return l
}

func upTo(t *testing.T, n int) *Index {
	t.Helper()
	return indexOf(t, digestsOf(n))
}

type pair struct {
	digest api.Digest
	place  int
}

func gathered(x *Index) (l []pair) {
	for d, place := range x.All() {
		l = append(l, pair{d, place})
	}
	return l
}

// rising tells digests and their places as All must.
func rising(places map[api.Digest]int) (l []pair) {
	for d, place := range places {
		l = append(l, pair{d, place})
	}
	slices.SortFunc(l, func(a, b pair) int { return bytes.Compare(a.digest[:], b.digest[:]) })
	return l
}

// placesOf tells the places of digests in their list.
func placesOf(l []api.Digest) map[api.Digest]int {
	places := map[api.Digest]int{}
	for i, d := range l {
		places[d] = i
	}
	return places
}

// powers tells the powers of two whose sum a number is, falling.
func powers(n int) (l []int) {
	for n > 0 {
		most := 1 << (bits.Len(uint(n)) - 1)
		l = append(l, most)
		n -= most
	}
	return l
}

// hold fails unless an index tells just these digests with these places.
func hold(t *testing.T, x *Index, places map[api.Digest]int) {
	t.Helper()
	if x.Len() != len(places) {
		t.Fatal(x.Len(), "not", len(places))
	}
	if !slices.Equal(x.Runs(), powers(len(places))) {
		t.Fatal(len(places), x.Runs())
	}
	if !slices.Equal(gathered(x), rising(places)) {
		t.Fatal(len(places), "All tells something else")
	}
	for d, place := range places {
		if got, there := x.Find(d); got != place || !there {
			t.Fatalf("Find %x: %d, %v, not %d", d, got, there, place)
		}
	}
}

// holdMissing fails if an index has a digest.
func holdMissing(t *testing.T, x *Index, d api.Digest) {
	t.Helper()
	if place, there := x.Find(d); place != 0 || there {
		t.Fatalf("Find %x: %d, %v", d, place, there)
	}
}

// chance tells numbers that look like chance and are the same each time.
type chance uint64

func (c *chance) below(n int) int {
	*c = *c*6364136223846793005 + 1442695040888963407
	return int(uint64(*c) >> 33 % uint64(n))
}

func (c *chance) shuffle(l []api.Digest) {
	for i := range l {
		k := i + c.below(len(l)-i)
		l[i], l[k] = l[k], l[i]
	}
}

// P16.1

func TestNewIndexHasNothing(t *testing.T) {
	x := New()
	if x == nil {
		t.Fatal("nil")
	}
	hold(t, x, nil)
	for _, d := range neighbours() {
		holdMissing(t, x, d)
	}
	put(t, x, numbered(1), 1)
	hold(t, New(), nil)
}

func TestTheExamples(t *testing.T) {
	x := upTo(t, 7)
	if !slices.Equal(x.Runs(), []int{4, 2, 1}) {
		t.Error(x.Runs())
	}
	put(t, x, numbered(7), 7)
	if !slices.Equal(x.Runs(), []int{8}) {
		t.Error(x.Runs())
	}
	want(t, "Add", x.Add(numbered(5), 8), api.ErrThere)
	want(t, "Add", x.Add(numbered(5), -1), api.ErrArg)
	if place, there := x.Find(numbered(5)); place != 5 || !there {
		t.Error(place, there)
	}
	holdMissing(t, x, numbered(8))
}

// modelRuns tells the runs by the words of the chapter: each Add's is one behind the others, and the last two become one as long as they are of one length.
func modelRuns(l []int) []int {
	l = append(l, 1)
	for len(l) > 1 && l[len(l)-1] == l[len(l)-2] {
		l = append(l[:len(l)-2], 2*l[len(l)-1])
	}
	return l
}

func TestRunsBecomeOne(t *testing.T) {
	x, runs := New(), []int(nil)
	for n := range 1100 {
		if !slices.Equal(x.Runs(), runs) || x.Len() != n {
			t.Fatal(n, x.Len(), x.Runs(), "not", runs)
		}
		put(t, x, numbered(n), n)
		runs = modelRuns(runs)
	}
}

func TestEachDigestIsFound(t *testing.T) {
	l := digestsOf(140)
	x := New()
	for n := range l {
		hold(t, x, placesOf(l[:n]))
		for _, d := range l[n:] {
			holdMissing(t, x, d)
		}
		put(t, x, l[n], n)
	}
}

func TestDigestsThatDifferInOneByte(t *testing.T) {
	l := neighbours()
	c := chance(1)
	for range 20 {
		c.shuffle(l)
		half := len(l) / 2
		x := indexOf(t, l[:half])
		hold(t, x, placesOf(l[:half]))
		for i, d := range l[half:] {
			holdMissing(t, x, d)
			put(t, x, d, half+i)
		}
		hold(t, x, placesOf(l))
	}
	d := numbered(1)
	x := indexOf(t, []api.Digest{d})
	for at := range 32 {
		for bit := range 8 {
			other := d
			other[at] ^= 1 << bit
			holdMissing(t, x, other)
		}
	}
}

func TestAnyPlaceFromNoughtOn(t *testing.T) {
	x, places := New(), map[api.Digest]int{}
	// Several digests may have one place.
	for i, place := range []int{0, math.MaxInt, 1, 0, 1 << 20, math.MaxInt, 7, 7, 1<<32 + 1, math.MaxInt - 1, 0} {
		put(t, x, numbered(i), place)
		places[numbered(i)] = place
		hold(t, x, places)
	}
}

// stays fails unless an Add answers an error and leaves the index as it was.
func stays(t *testing.T, x *Index, e api.Errno, d api.Digest, place int) {
	t.Helper()
	runs, l := x.Runs(), gathered(x)
	was, there := x.Find(d)
	want(t, fmt.Sprintf("Add %x %d", d, place), x.Add(d, place), e)
	if !slices.Equal(x.Runs(), runs) || !slices.Equal(gathered(x), l) || x.Len() != len(l) {
		t.Fatal(len(l), "has changed")
	}
	if is, still := x.Find(d); is != was || still != there {
		t.Fatalf("%x is found otherwise", d)
	}
}

func TestADigestThatIsThere(t *testing.T) {
	for n := range 40 {
		x := upTo(t, n)
		for i := range n {
			for _, place := range []int{i, i + 1, 0, n, math.MaxInt} {
				stays(t, x, api.ErrThere, numbered(i), place)
			}
		}
		put(t, x, numbered(n), n)
		hold(t, x, placesOf(digestsOf(n+1)))
	}
}

func TestPlacesBelowNought(t *testing.T) {
	for n := range 20 {
		x := upTo(t, n)
		for _, place := range []int{-1, -2, -1 << 32, math.MinInt + 1, math.MinInt} {
			// With a digest that is there, both errors apply.
			for i := range n + 2 {
				stays(t, x, api.ErrArg, numbered(i), place)
			}
		}
		put(t, x, numbered(n), 0)
	}
}

// P16.2

func TestAllRises(t *testing.T) {
	for _, n := range []int{0, 1, 2, 3, 4, 5, 7, 8, 9, 31, 32, 33, 255, 256, 257, 1000, 1023} {
		l := gathered(upTo(t, n))
		if len(l) != n {
			t.Fatal(n, len(l))
		}
		for i, p := range l {
			if i > 0 && bytes.Compare(l[i-1].digest[:], p.digest[:]) >= 0 {
				t.Fatalf("%d: %x ahead of %x", n, l[i-1].digest, p.digest)
			}
			if numbered(p.place) != p.digest {
				t.Fatalf("%d: %x has the place %d", n, p.digest, p.place)
			}
		}
	}
}

func TestCloneIsAsTheOther(t *testing.T) {
	for n := range 70 {
		x := upTo(t, n)
		c := x.Clone()
		if c == nil || c == x {
			t.Fatal(n, "is none of its own")
		}
		places := placesOf(digestsOf(n))
		hold(t, c, places)
		hold(t, c.Clone(), places)
		hold(t, x, places)
	}
}

func TestCloneOfNone(t *testing.T) {
	for _, x := range []*Index{nil, {}, new(Index)} {
		if x.Clone() != nil {
			t.Error("a clone of nothing")
		}
	}
}

// P16.3

func TestRunsArePowersOfTwo(t *testing.T) {
	x := New()
	for n := 1; n <= 1<<13+3; n++ {
		put(t, x, numbered(n), n)
		runs := x.Runs()
		sum := 0
		for i, length := range runs {
			if bits.OnesCount(uint(length)) != 1 || i > 0 && length >= runs[i-1] {
				t.Fatal(n, runs)
			}
			sum += length
		}
		if sum != n || x.Len() != n {
			t.Fatal(n, x.Len(), runs)
		}
	}
}

func TestAGreatIndex(t *testing.T) {
	n := 1<<18 - 1
	x := upTo(t, n)
	hold(t, x, placesOf(digestsOf(n)))
	stays(t, x, api.ErrThere, numbered(n/3), n)
	put(t, x, numbered(n), n)
	if !slices.Equal(x.Runs(), []int{n + 1}) {
		t.Error(x.Runs())
	}
	holdMissing(t, x, numbered(n+1))
}

// P16.4

// orders tells a list of digests in several orders.
func orders(l []api.Digest) (out [][]api.Digest) {
	up := slices.SortedFunc(slices.Values(l), func(a, b api.Digest) int { return bytes.Compare(a[:], b[:]) })
	down := slices.Clone(up)
	slices.Reverse(down)
	var inward, outward []api.Digest
	for i := range up {
		k := i / 2
		if i%2 == 1 {
			k = len(up) - 1 - k
		}
		inward = append(inward, up[k])
	}
	outward = slices.Clone(inward)
	slices.Reverse(outward)
	out = append(out, l, up, down, inward, outward)
	c := chance(len(l))
	for range 10 {
		shuffled := slices.Clone(l)
		c.shuffle(shuffled)
		out = append(out, shuffled)
	}
	return out
}

func TestNoOrderOfAddsShows(t *testing.T) {
	for _, l := range [][]api.Digest{nil, digestsOf(1), digestsOf(2), digestsOf(3), digestsOf(6), digestsOf(7), digestsOf(8), digestsOf(29), neighbours(), digestsOf(300)} {
		places := placesOf(l)
		for _, order := range orders(l) {
			x := New()
			for _, d := range order {
				put(t, x, d, places[d])
			}
			hold(t, x, places)
			holdMissing(t, x, numbered(-1))
		}
	}
}

func TestEachOrderOfAFew(t *testing.T) {
	l := digestsOf(6)
	places := placesOf(l)
	var goOn func(ahead, left []api.Digest)
	goOn = func(ahead, left []api.Digest) {
		if len(left) == 0 {
			x := New()
			for _, d := range ahead {
				put(t, x, d, places[d])
			}
			hold(t, x, places)
		}
		for i, d := range left {
			goOn(append(slices.Clone(ahead), d), slices.Delete(slices.Clone(left), i, i+1))
		}
	}
	goOn(nil, l)
}

func TestCloneAndOriginalGoOnApart(t *testing.T) {
	for n := range 40 {
		for more := range 20 {
			x := upTo(t, n)
			c := x.Clone()
			ours, theirs := placesOf(digestsOf(n)), placesOf(digestsOf(n))
			for i := range more {
				put(t, x, numbered(1000+i), i)
				ours[numbered(1000+i)] = i
				// The same digest may get another place in the other one.
				put(t, c, numbered(1000-i), i+1)
				theirs[numbered(1000-i)] = i + 1
			}
			hold(t, x, ours)
			hold(t, c, theirs)
		}
	}
}

func TestOneGoesOnAlone(t *testing.T) {
	for n := range 40 {
		was := placesOf(digestsOf(n))
		x := upTo(t, n)
		c := x.Clone()
		for i := n; i < n+20; i++ {
			put(t, x, numbered(i), i)
			hold(t, c, was)
			holdMissing(t, c, numbered(i))
		}
		x = upTo(t, n)
		c = x.Clone()
		for i := n; i < n+20; i++ {
			put(t, c, numbered(i), i)
			hold(t, x, was)
			holdMissing(t, x, numbered(i))
		}
	}
}

func TestManyClonesOfOneLife(t *testing.T) {
	for life := range 20 {
		c := chance(life)
		all, models := []*Index{New()}, []map[api.Digest]int{{}}
		for range 150 {
			i := c.below(len(all))
			if c.below(10) == 0 {
				all, models = append(all, all[i].Clone()), append(models, maps.Clone(models[i]))
				continue
			}
			d, place := numbered(c.below(100)), c.below(1000)-5
			_, there := models[i][d]
			switch {
			case place < 0:
				stays(t, all[i], api.ErrArg, d, place)
			case there:
				stays(t, all[i], api.ErrThere, d, place)
			default:
				put(t, all[i], d, place)
				models[i][d] = place
			}
		}
		for i, x := range all {
			hold(t, x, models[i])
		}
	}
}

// Rule 1 of DOC.md

func TestNoIndex(t *testing.T) {
	for _, x := range []*Index{nil, {}, new(Index)} {
		for _, place := range []int{0, 1, -1, math.MinInt, math.MaxInt} {
			for _, d := range []api.Digest{{}, numbered(0)} {
				want(t, "Add", x.Add(d, place), api.ErrNil)
				holdMissing(t, x, d)
			}
		}
		if x.Len() != 0 || x.Runs() != nil || x.Clone() != nil || gathered(x) != nil {
			t.Error("nothing has something")
		}
		if x != nil && !reflect.DeepEqual(*x, Index{}) {
			t.Error("something was done")
		}
	}
}

// Rule 4 of DOC.md

func TestRunsAreNewMemory(t *testing.T) {
	x := upTo(t, 23)
	l, other := x.Runs(), x.Runs()
	l = l[:cap(l)]
	for i := range l {
		l[i] = -1
	}
	l = append(l, -1)
	if !slices.Equal(other, []int{16, 4, 2, 1}) {
		t.Error("two answers share memory")
	}
	hold(t, x, placesOf(digestsOf(23)))
}

// Rule 8 of DOC.md

func TestAllMayBeLeftAnywhere(t *testing.T) {
	for _, n := range []int{1, 2, 3, 7, 8, 13} {
		x := upTo(t, n)
		l, all := gathered(x), x.All()
		for stop := range n {
			var got []pair
			all(func(d api.Digest, place int) bool {
				got = append(got, pair{d, place})
				return len(got) <= stop
			})
			if !slices.Equal(got, l[:stop+1]) {
				t.Error(n, stop, len(got))
			}
		}
		hold(t, x, placesOf(digestsOf(n)))
	}
}

func TestAllWithinAll(t *testing.T) {
	x := upTo(t, 13)
	l, all := gathered(x), x.All()
	i := 0
	for d, place := range all {
		k := 0
		for d, place := range all {
			if l[k] != (pair{d, place}) {
				t.Fatal(i, k)
			}
			k++
		}
		if l[i] != (pair{d, place}) || k != 13 {
			t.Fatal(i, k)
		}
		i++
	}
	if i != 13 {
		t.Error(i)
	}
}

func TestAllTellsWhatIsThereAsTheRangeBegins(t *testing.T) {
	x := New()
	all := x.All()
	for n := range 40 {
		was := placesOf(digestsOf(n))
		var got []pair
		for d, place := range all {
			// What is added meanwhile stands ahead of the next ones, between them and behind.
			want(t, "Add", x.Add(numbered(len(got)+n), len(got)+n), api.OK)
			got = append(got, pair{d, place})
		}
		if !slices.Equal(got, rising(was)) {
			t.Fatal(n, len(got))
		}
		hold(t, x, placesOf(digestsOf(2*n)))
		if l := gathered(x); !slices.Equal(l, rising(placesOf(digestsOf(2*n)))) {
			t.Fatal(n, len(l))
		}
		*x = *upTo(t, n+1)
	}
}

func TestAllOfACloneWhileTheOriginalGoesOn(t *testing.T) {
	for n := 1; n < 40; n++ {
		x := upTo(t, n)
		c := x.Clone()
		i := n
		var got []pair
		for d, place := range c.All() {
			put(t, x, numbered(i), i)
			i++
			got = append(got, pair{d, place})
		}
		if !slices.Equal(got, rising(placesOf(digestsOf(n)))) {
			t.Fatal(n, len(got))
		}
		hold(t, x, placesOf(digestsOf(i)))
	}
}
