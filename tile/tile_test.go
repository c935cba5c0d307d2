package tile

import (
	"bytes"
	"crypto/sha256"
	"fmt"
	"math"
	"math/big"
	"regexp"
	"slices"
	"strconv"
	"strings"
	"testing"

	"coppice/api"
	"coppice/node"
	"coppice/tree"
)

// most is the size up to which all logs are gone through.
const most = 70

// heights tells all that are heights.
func heights() []int { return []int{1, 2, 3, 4, 5, 6, 7, 8} }

// noHeights tells numbers that are none, those among them whose shifts and products would go astray.
func noHeights() []int {
	return []int{0, 9, -1, 10, 16, 48, 63, 64, 65, -8, -64, 1<<32 + 1, 1 << 61, math.MaxInt, math.MinInt, math.MinInt + 1}
}

// edges tells numbers at which something could go wrong: those about the powers of two, MaxSize and the ends of the range.
func edges() []int {
	out := []int{math.MinInt, math.MinInt + 1, -api.MaxSize, -256, -2, -1, 0, 3, 6, 11, 1000, 123456789, math.MaxInt - 1, math.MaxInt}
	for level := range 63 {
		out = append(out, 1<<level-1, 1<<level, 1<<level+1)
	}
	slices.Sort(out)
	return slices.Compact(out)
}

// someLevels tells levels of tiles or of nodes, and numbers that are none.
func someLevels() []int {
	out := []int{math.MinInt, math.MinInt / 8, -64, -1, 62, 63, 64, 65, 1 << 32, 1<<61 + 1, 1 << 61, 1 << 62, math.MaxInt / 8, math.MaxInt/8 + 1, math.MaxInt}
	for level := range 51 {
		out = append(out, level)
	}
	return out
}

// sizes tells sizes of logs, small and great, up to MaxSize.
func sizes() []int {
	var out []int
	for _, n := range edges() {
		if n >= 0 && n <= api.MaxSize {
			out = append(out, n)
		}
	}
	return append(out, 65537*257, 123456789012, 0x5555_5555_5555, 0xaaaa_aaaa_aaaa, 0xcafe_f00d_d00d, api.MaxSize-12345)
}

func whole(v int) *big.Int { return big.NewInt(int64(v)) }

// twoTo tells a power of two as a whole number without a bound.
func twoTo(v *big.Int) *big.Int { return new(big.Int).Lsh(big.NewInt(1), uint(v.Int64())) }

// nodeOf tells the level and the index of a tile's node j by the words of the chapter, of a height that is one.
func nodeOf(height, level, index, j int) (l, i *big.Int) {
	l = new(big.Int).Mul(whole(level), whole(height))
	i = new(big.Int).Mul(whole(index), twoTo(whole(height)))
	return l, i.Add(i, whole(j))
}

// mayBe tells whether a tile may be, reckoned by whole numbers without a bound.
func mayBe(t api.Tile) bool {
	if t.Height < 1 || t.Height > 8 || t.Level < 0 || t.Index < 0 || t.Width < 1 || t.Width > 1<<t.Height {
		return false
	}
	level, index := nodeOf(t.Height, t.Level, t.Index, t.Width-1)
	if level.Cmp(whole(48)) > 0 {
		return false
	}
	end := new(big.Int).Add(index, whole(1))
	end.Mul(end, twoTo(level))
	return end.Cmp(whole(api.MaxSize)) <= 0
}

// someTiles goes through tiles that may be and others: each height, level, index and width about its edges.
func someTiles(yield func(api.Tile) bool) {
	for _, height := range append(heights(), noHeights()...) {
		for _, level := range someLevels() {
			for _, index := range edges() {
				for _, width := range []int{math.MinInt, -1, 0, 1, 2, 3, 1<<min(max(height, 1), 9) - 1, 1 << min(max(height, 1), 9), 1<<min(max(height, 1), 9) + 1, 256, 257, math.MaxInt} {
					if !yield(api.Tile{Height: height, Level: level, Index: index, Width: width}) {
						return
					}
				}
			}
		}
	}
}

// goodTiles tells tiles that may be, of all heights, levels and sizes, the last ones of their levels among them.
func goodTiles() []api.Tile {
	var out []api.Tile
	for t := range someTiles {
		if mayBe(t) {
			out = append(out, t)
		}
	}
	for _, height := range heights() {
		for level := 0; level*height <= 48; level++ {
			nodes := api.MaxSize >> (level * height)
			last := api.Tile{Height: height, Level: level, Index: (nodes - 1) >> height}
			for _, width := range []int{1, min(nodes, 1<<height)} {
				last.Width = width
				out = append(out, last)
			}
		}
	}
	return out
}

// someLeaves tells n digests, all unlike.
func someLeaves(n int) []api.Digest {
	l := make([]api.Digest, n)
	for i := range l {
		l[i] = sha256.Sum256([]byte{byte(i >> 8), byte(i)})
	}
	return l
}

// filled tells the bytes of a tile over leaves: tree.Sub of each of its nodes.
func filled(t *testing.T, l []api.Digest, x api.Tile) []byte {
	t.Helper()
	var b []byte
	leaves := 1 << (x.Level * x.Height)
	for j := range x.Width {
		at := (x.Index<<x.Height + j) * leaves
		d, e := tree.Sub(l, api.Span{Begin: at, End: at + leaves})
		if e != api.OK {
			t.Fatal("sub", x, j, e)
		}
		b = append(b, d[:]...)
	}
	return b
}

func of(t *testing.T, height int, n api.Node) (x api.Tile, from, to int) {
	t.Helper()
	x, from, to, e := Of(height, n)
	if e != api.OK {
		t.Fatal("of", height, n, e)
	}
	return x, from, to
}

func width(t *testing.T, height, level, index, n int) int {
	t.Helper()
	w, e := Width(height, level, index, n)
	if e != api.OK {
		t.Fatal("width", height, level, index, n, e)
	}
	return w
}

func levels(t *testing.T, height, n int) int {
	t.Helper()
	v, e := Levels(height, n)
	if e != api.OK {
		t.Fatal("levels", height, n, e)
	}
	return v
}

func need(t *testing.T, height int, l []api.Node) []api.Tile {
	t.Helper()
	out, e := Need(height, l)
	if e != api.OK {
		t.Fatal("need", height, l, e)
	}
	return out
}

// someNodes goes through nodes that may be and others.
func someNodes(yield func(api.Node) bool) {
	for _, level := range someLevels() {
		for _, index := range edges() {
			if !yield(api.Node{Level: level, Index: index}) {
				return
			}
		}
	}
}

// nodesIn tells the nodes whose leaves all lie below n, level by level.
func nodesIn(n int) []api.Node {
	var out []api.Node
	for level := 0; n>>level > 0; level++ {
		for index := range n >> level {
			out = append(out, api.Node{Level: level, Index: index})
		}
	}
	return out
}

// P10.1

func TestValidAtTheEdges(t *testing.T) {
	for _, x := range []struct {
		t    api.Tile
		want bool
	}{
		{api.Tile{}, false}, {api.Tile{Height: 1, Width: 1}, true}, {api.Tile{Height: 1, Width: 2}, true}, {api.Tile{Height: 1, Width: 3}, false},
		{api.Tile{Height: 8, Width: 256}, true}, {api.Tile{Height: 8, Width: 257}, false}, {api.Tile{Height: 8}, false}, {api.Tile{Height: 8, Width: -1}, false},
		{api.Tile{Height: 9, Width: 1}, false}, {api.Tile{Width: 1}, false}, {api.Tile{Height: -1, Width: 1}, false},
		{api.Tile{Height: 3, Level: -1, Width: 1}, false}, {api.Tile{Height: 3, Index: -1, Width: 1}, false},
		{api.Tile{Height: 1, Level: 48, Width: 1}, true}, {api.Tile{Height: 1, Level: 48, Width: 2}, false}, {api.Tile{Height: 1, Level: 48, Index: 1, Width: 1}, false},
		{api.Tile{Height: 1, Level: 49, Width: 1}, false}, {api.Tile{Height: 1, Level: 47, Width: 2}, true}, {api.Tile{Height: 1, Level: 47, Index: 1, Width: 1}, false},
		{api.Tile{Height: 8, Level: 6, Width: 1}, true}, {api.Tile{Height: 8, Level: 6, Width: 2}, false}, {api.Tile{Height: 8, Level: 7, Width: 1}, false},
		{api.Tile{Height: 5, Level: 9, Width: 8}, true}, {api.Tile{Height: 5, Level: 9, Width: 9}, false}, {api.Tile{Height: 5, Level: 10, Width: 1}, false},
		{api.Tile{Height: 7, Level: 6, Width: 64}, true}, {api.Tile{Height: 7, Level: 6, Width: 65}, false}, {api.Tile{Height: 7, Level: 6, Index: 1, Width: 1}, false},
		{api.Tile{Height: 8, Index: 1<<40 - 1, Width: 256}, true}, {api.Tile{Height: 8, Index: 1 << 40, Width: 1}, false},
		{api.Tile{Height: 8, Index: 1 << 56, Width: 1}, false}, {api.Tile{Height: 8, Level: 1 << 61, Width: 1}, false}, {api.Tile{Height: 4, Level: 1 << 62, Width: 1}, false},
		{api.Tile{Height: math.MaxInt, Level: math.MaxInt, Index: math.MaxInt, Width: math.MaxInt}, false},
		{api.Tile{Height: math.MinInt, Level: math.MinInt, Index: math.MinInt, Width: math.MinInt}, false},
	} {
		if Valid(x.t) != x.want {
			t.Error(x.t, !x.want)
		}
	}
}

func TestValidOfManyTiles(t *testing.T) {
	good := 0
	for x := range someTiles {
		if Valid(x) != mayBe(x) {
			t.Fatal(x, Valid(x))
		}
		if Valid(x) {
			good++
		}
	}
	if good < 5000 {
		t.Error("too few that may be:", good)
	}
}

func TestPathsOfFewTiles(t *testing.T) {
	for _, x := range []struct {
		t    api.Tile
		want string
	}{
		{api.Tile{Height: 8, Index: 1234067, Width: 256}, "tile/8/0/x001/x234/067"},
		{api.Tile{Height: 8, Level: 1, Index: 5, Width: 17}, "tile/8/1/005.p/17"},
		{api.Tile{Height: 8, Index: 1234067, Width: 255}, "tile/8/0/x001/x234/067.p/255"},
		{api.Tile{Height: 1, Width: 1}, "tile/1/0/000.p/1"}, {api.Tile{Height: 1, Width: 2}, "tile/1/0/000"},
		{api.Tile{Height: 3, Level: 2, Index: 999, Width: 8}, "tile/3/2/999"}, {api.Tile{Height: 3, Level: 2, Index: 1000, Width: 8}, "tile/3/2/x001/000"},
		{api.Tile{Height: 3, Index: 10, Width: 7}, "tile/3/0/010.p/7"}, {api.Tile{Height: 3, Index: 100, Width: 1}, "tile/3/0/100.p/1"},
		{api.Tile{Height: 2, Index: 1000000, Width: 4}, "tile/2/0/x001/x000/000"}, {api.Tile{Height: 2, Index: 999999, Width: 4}, "tile/2/0/x999/999"},
		{api.Tile{Height: 2, Index: 100020003, Width: 4}, "tile/2/0/x100/x020/003"},
		{api.Tile{Height: 1, Level: 48, Width: 1}, "tile/1/48/000.p/1"}, {api.Tile{Height: 8, Level: 6, Width: 1}, "tile/8/6/000.p/1"},
		{api.Tile{Height: 1, Index: 1<<47 - 1, Width: 2}, "tile/1/0/x140/x737/x488/x355/327"},
		{api.Tile{Height: 1, Level: 10, Index: 1<<37 - 1, Width: 1}, "tile/1/10/x137/x438/x953/471.p/1"},
	} {
		if s, e := Path(x.t); s != x.want || e != api.OK {
			t.Error(x.t, s, e)
		}
		if got, e := Parse(x.want); got != x.t || e != api.OK {
			t.Error(x.want, got, e)
		}
	}
}

// pathByDigits tells a tile's path by the words of the chapter: digits, noughts ahead, groups.
func pathByDigits(t api.Tile) string {
	digits := strconv.Itoa(t.Index)
	for len(digits)%3 != 0 {
		digits = "0" + digits
	}
	var groups []string
	for at := 0; at < len(digits); at += 3 {
		groups = append(groups, "x"+digits[at:at+3])
	}
	groups[len(groups)-1] = digits[len(digits)-3:]
	s := fmt.Sprintf("tile/%d/%d/%s", t.Height, t.Level, strings.Join(groups, "/"))
	if t.Width != 1<<t.Height {
		s += fmt.Sprintf(".p/%d", t.Width)
	}
	return s
}

func TestPathOfManyTiles(t *testing.T) {
	for x := range someTiles {
		s, e := Path(x)
		if !mayBe(x) {
			if s != "" || e != api.ErrArg {
				t.Fatal(x, s, e)
			}
			continue
		}
		if s != pathByDigits(x) || e != api.OK {
			t.Fatal(x, s, e)
		}
	}
}

func TestParseOfNoPath(t *testing.T) {
	for _, s := range []string{
		"", "tile", "tile/", "tile/8", "tile/8/", "tile/8/0", "tile/8/0/", "/", "///", "tile///", "x", ".p/", "tile/8/0/.p/5",
		"tile/8/0/5", "tile/8/0/05", "tile/8/0/0005", "tile/8/0/000005", "tile/8/0/005005", "tile/8/0/005/005", "tile/8/0/x005", "tile/8/0/x005/", "tile/8/0/x005/x005",
		"tile/8/0/x000/005", "tile/8/0/x000/x001/005", "tile/8/0/x0001/005", "tile/8/0/x01/005", "tile/8/0/X001/005", "tile/8/0/xx001/005", "tile/8/0/x001//005", "tile/8/0/001x/005", "tile/8/0/x001x005",
		"tile/8/0/005.p/256", "tile/8/0/005.p/257", "tile/8/0/005.p/0", "tile/8/0/005.p/-1", "tile/8/0/005.p/+1", "tile/8/0/005.p/017", "tile/8/0/005.p/", "tile/8/0/005.p", "tile/8/0/005.p17", "tile/8/0/005.P/17",
		"tile/8/0/005.p/17/", "tile/8/0/005.p/17.p/17", "tile/8/0/005.p/17.p/", "tile/8/0/005.p/.p/17", "tile/8/0/005/.p/17", "tile/8/0/005p/17", "tile/8/0/005.p//17", "tile/8/0/005.p/x017", "tile/8/0/.p/17005",
		"tile/08/0/005", "tile/8/00/005", "tile/8/01/005", "tile/+8/0/005", "tile/8/-0/005", "tile/8/+0/005", "tile/8/-1/005", "tile/8/0/-05", "tile/8/0/+05", "tile/8/0/-005",
		"tile/0/0/005", "tile/0/0/000.p/1", "tile/9/0/005", "tile/-1/0/005", "tile/64/0/000", "tile/-64/0/000", "tile/1/0/000.p/2", "tile/2/0/000.p/4",
		"tile//0/005", "tile/8//005", "tile/8/0/005 ", " tile/8/0/005", "tile/8/0/005\n", "\ntile/8/0/005", "tile/8/0/005\x00", "tile/8/ 0/005", "Tile/8/0/005", "/tile/8/0/005", "tile/8/0/005/", "tile/tile/8/0/005", "8/0/005", "tiles/8/0/005",
		"tile/8/0/0x05", "tile/8/0/0_5", "tile/8/0/1e2", "tile/8/0/٠٠٥", "tile/8/0/005.p/1_7", "tile/8/0/a05",
		"tile/1/48/000", "tile/1/48/000.p/2", "tile/1/48/001.p/1", "tile/1/49/000.p/1", "tile/8/6/000", "tile/8/7/000.p/1", "tile/5/9/000", "tile/5/9/000.p/9", "tile/8/1000/000",
		"tile/1/0/x140/x737/x488/x355/328", "tile/1/0/x140/x737/x488/x355/328.p/1", "tile/8/0/x001/x099/x511/x627/776", "tile/8/0/x999/x999/x999/x999/999",
		"tile/8/0/x018/x446/x744/x073/x709/x551/616", "tile/8/0/x018/x446/x744/x073/x709/x551/621", "tile/18446744073709551624/0/005", "tile/8/18446744073709551616/005", "tile/8/0/005.p/18446744073709551633",
		"tile/8/" + strings.Repeat("9", 1000) + "/005", "tile/8/0/" + strings.Repeat("x001/", 100000) + "005", "tile/8/0/" + strings.Repeat("0", 300000), strings.Repeat("tile/", 100000), strings.Repeat(".p/", 100000),
	} {
		if x, e := Parse(s); e != api.ErrPath || x != (api.Tile{}) {
			t.Errorf("%.60q %v %d", s, x, int(e))
		}
	}
}

var shape = regexp.MustCompile(`^tile/(0|[1-9][0-9]*)/(0|[1-9][0-9]*)/((?:x[0-9]{3}/)*[0-9]{3})(?:\.p/([1-9][0-9]*))?$`)

// parsed tells the tile of a path by its shape and by whole numbers without a bound.
func parsed(s string) (api.Tile, bool) {
	m := shape.FindStringSubmatch(s)
	if m == nil || strings.HasPrefix(m[3], "x000") {
		return api.Tile{}, false
	}
	var v [4]int
	for i, digits := range []string{m[1], m[2], strings.NewReplacer("x", "", "/", "").Replace(m[3]), m[4]} {
		w, _ := new(big.Int).SetString("0"+digits, 10)
		if !w.IsInt64() {
			return api.Tile{}, false
		}
		v[i] = int(w.Int64())
	}
	x := api.Tile{Height: v[0], Level: v[1], Index: v[2], Width: v[3]}
	if x.Height < 1 || x.Height > 8 || m[4] != "" && x.Width == 1<<x.Height {
		return api.Tile{}, false
	}
	if m[4] == "" {
		x.Width = 1 << x.Height
	}
	return x, mayBe(x)
}

// changed goes through the texts that one change makes of a path: a byte taken away, put between or put in another's place, a piece at an end taken away, a piece put twice.
func changed(s string) func(yield func(string) bool) {
	return func(yield func(string) bool) {
		for at := range len(s) + 1 {
			others := []string{s[:at], s[at:], s[:at] + s, s + s[at:]}
			for _, c := range "0123456789x/.pXtile-+_ \n\x00é" {
				others = append(others, s[:at]+string(c)+s[at:])
				if at < len(s) {
					others = append(others, s[:at]+string(c)+s[at+1:])
				}
			}
			if at < len(s) {
				others = append(others, s[:at]+s[at+1:], s[:at]+"\xff"+s[at+1:])
			}
			for _, o := range others {
				if !yield(o) {
					return
				}
			}
		}
	}
}

func TestParseOfChangedPaths(t *testing.T) {
	good, bad := 0, 0
	for i, x := range goodTiles() {
		if i%71 != 0 {
			continue
		}
		for s := range changed(pathByDigits(x)) {
			got, e := Parse(s)
			want, ok := parsed(s)
			switch {
			case ok && (e != api.OK || got != want):
				t.Fatalf("%q %v %d", s, got, int(e))
			case !ok && (e != api.ErrPath || got != (api.Tile{})):
				t.Fatalf("%q %v %d", s, got, int(e))
			case ok:
				good++
			default:
				bad++
			}
		}
	}
	if good < 1000 || bad < 1000 {
		t.Error("too few paths or others:", good, bad)
	}
}

// P10.2

func TestOfFewNodes(t *testing.T) {
	for _, x := range []struct {
		height   int
		n        api.Node
		want     api.Tile
		from, to int
	}{
		{3, api.Node{Level: 4, Index: 5}, api.Tile{Height: 3, Level: 1, Index: 1, Width: 4}, 2, 4},
		{3, api.Node{}, api.Tile{Height: 3, Width: 1}, 0, 1},
		{3, api.Node{Index: 7}, api.Tile{Height: 3, Width: 8}, 7, 8},
		{3, api.Node{Index: 8}, api.Tile{Height: 3, Index: 1, Width: 1}, 0, 1},
		{3, api.Node{Level: 2, Index: 1}, api.Tile{Height: 3, Width: 8}, 4, 8},
		{3, api.Node{Level: 3, Index: 1}, api.Tile{Height: 3, Level: 1, Width: 2}, 1, 2},
		{1, api.Node{Level: 1, Index: 3}, api.Tile{Height: 1, Level: 1, Index: 1, Width: 2}, 1, 2},
		{8, api.Node{Level: 7, Index: 3}, api.Tile{Height: 8, Index: 1, Width: 256}, 128, 256},
		{8, api.Node{Level: 48}, api.Tile{Height: 8, Level: 6, Width: 1}, 0, 1},
		{7, api.Node{Level: 48}, api.Tile{Height: 7, Level: 6, Width: 64}, 0, 64},
		{5, api.Node{Level: 47, Index: 1}, api.Tile{Height: 5, Level: 9, Width: 8}, 4, 8},
		{1, api.Node{Level: 48}, api.Tile{Height: 1, Level: 48, Width: 1}, 0, 1},
		{8, api.Node{Index: api.MaxSize - 1}, api.Tile{Height: 8, Index: 1<<40 - 1, Width: 256}, 255, 256},
		{1, api.Node{Index: api.MaxSize - 2}, api.Tile{Height: 1, Index: 1<<47 - 1, Width: 1}, 0, 1},
	} {
		if got, from, to := of(t, x.height, x.n); got != x.want || from != x.from || to != x.to {
			t.Error(x.height, x.n, got, from, to)
		}
	}
}

func TestOfManyNodes(t *testing.T) {
	good := 0
	for _, height := range append(heights(), noHeights()...) {
		for n := range someNodes {
			x, from, to, e := Of(height, n)
			if height < 1 || height > 8 || !node.Valid(n) {
				if e != api.ErrArg || x != (api.Tile{}) || from != 0 || to != 0 {
					t.Fatal(height, n, x, from, to, e)
				}
				continue
			}
			good++
			over := 1 << (n.Level % height)
			first := n.Index * over
			want := api.Tile{Height: height, Level: n.Level / height, Index: first / (1 << height), Width: first%(1<<height) + over}
			if e != api.OK || x != want || from != first%(1<<height) || to != want.Width {
				t.Fatal(height, n, x, from, to, e)
			}
		}
	}
	if good < 10000 {
		t.Error("too few that may be:", good)
	}
}

func TestDigestsOfATileStandOverJustTheNodesLeaves(t *testing.T) {
	for _, height := range heights() {
		for n := range someNodes {
			leaves, e := node.Leaves(n)
			if e != api.OK {
				continue
			}
			x, from, to := of(t, height, n)
			if !mayBe(x) || from < 0 || from >= to || to > 1<<height || x.Width != to {
				t.Fatal(height, n, x, from, to)
			}
			first, e1 := node.Leaves(api.Node{Level: x.Level * height, Index: x.Index<<height + from})
			last, e2 := node.Leaves(api.Node{Level: x.Level * height, Index: x.Index<<height + to - 1})
			if e1 != api.OK || e2 != api.OK || first.Begin != leaves.Begin || last.End != leaves.End {
				t.Fatal(height, n, x, first, last)
			}
		}
	}
}

// P10.3

func TestDigestAndRootOfFewTiles(t *testing.T) {
	l := someLeaves(4)
	b := slices.Concat(l[0][:], l[1][:], l[2][:], l[3][:])
	x := api.Tile{Height: 2, Level: 1, Index: 3, Width: 4}
	first, second := tree.Node(l[0], l[1]), tree.Node(l[2], l[3])
	for _, y := range []struct {
		n    api.Node
		want api.Digest
	}{
		{api.Node{Level: 2, Index: 12}, l[0]}, {api.Node{Level: 2, Index: 15}, l[3]},
		{api.Node{Level: 3, Index: 6}, first}, {api.Node{Level: 3, Index: 7}, second},
	} {
		if d, e := Digest(x, b, y.n); d != y.want || e != api.OK {
			t.Error(y.n, d, e)
		}
	}
	for width, want := range []api.Digest{1: l[0], 2: first, 3: tree.Node(first, l[2]), 4: tree.Node(first, second)} {
		x.Width = width
		d, e := Root(x, b[:32*width])
		if width == 0 {
			if e != api.ErrArg || d != (api.Digest{}) {
				t.Error(d, e)
			}
			continue
		}
		if d != want || e != api.OK {
			t.Error(width, d, e)
		}
	}
}

// folded tells a node's digest by the words of the chapter: of one digest itself, of more tree.Node of both halves'.
func folded(l []api.Digest) api.Digest {
	if len(l) == 1 {
		return l[0]
	}
	return tree.Node(folded(l[:len(l)/2]), folded(l[len(l)/2:]))
}

func TestDigestOfEachNodeOfATile(t *testing.T) {
	for _, height := range heights() {
		l := someLeaves(1 << height)
		var b []byte
		for _, d := range l {
			b = append(b, d[:]...)
		}
		for above := range height {
			for index := range 1 << (height - above) {
				place := api.Tile{Height: height, Level: 2, Index: 5, Width: (index + 1) << above}
				n := api.Node{Level: 2*height + above, Index: 5<<(height-above) + index}
				want := folded(l[index<<above : (index+1)<<above])
				for _, place.Width = range []int{place.Width, min(place.Width+1, 1<<height), 1 << height} {
					if d, e := Digest(place, b[:32*place.Width], n); d != want || e != api.OK {
						t.Fatal(place, n, e)
					}
				}
			}
		}
	}
}

func TestDigestOutOfAnotherTile(t *testing.T) {
	x := api.Tile{Height: 3, Level: 1, Index: 2, Width: 5}
	b := bytes.Repeat([]byte{7}, 32*5)
	for _, y := range []struct {
		n    api.Node
		want api.Errno
	}{
		{api.Node{Level: 3, Index: 16}, api.OK}, {api.Node{Level: 3, Index: 20}, api.OK}, {api.Node{Level: 4, Index: 9}, api.OK}, {api.Node{Level: 5, Index: 4}, api.OK},
		{api.Node{Level: 3, Index: 21}, api.ErrRange}, {api.Node{Level: 4, Index: 10}, api.ErrRange}, {api.Node{Level: 5, Index: 5}, api.ErrRange},
		{api.Node{Level: 3, Index: 15}, api.ErrRange}, {api.Node{Level: 3, Index: 24}, api.ErrRange}, {api.Node{Level: 3}, api.ErrRange},
		{api.Node{Level: 2, Index: 32}, api.ErrRange}, {api.Node{Index: 16}, api.ErrRange}, {api.Node{Level: 6, Index: 2}, api.ErrRange}, {api.Node{Level: 6, Index: 16}, api.ErrRange},
		{api.Node{Level: 3, Index: -1}, api.ErrArg}, {api.Node{Level: -1}, api.ErrArg}, {api.Node{Level: 49}, api.ErrArg}, {api.Node{Level: 3, Index: 1 << 45}, api.ErrArg},
	} {
		d, e := Digest(x, b, y.n)
		if e != y.want || e != api.OK && d != (api.Digest{}) {
			t.Error(y.n, d, e)
		}
	}
}

func TestRootOfAFullTileIsNoDigestOfIt(t *testing.T) {
	x := api.Tile{Height: 2, Width: 4}
	if d, e := Digest(x, make([]byte, 128), api.Node{Level: 2}); e != api.ErrRange || d != (api.Digest{}) {
		t.Error(d, e)
	}
}

func TestBytesOfAnotherLength(t *testing.T) {
	for _, x := range []api.Tile{{Height: 1, Width: 1}, {Height: 1, Width: 2}, {Height: 4, Level: 2, Index: 6, Width: 11}, {Height: 8, Width: 256}, {Height: 8, Level: 6, Width: 1}} {
		n := api.Node{Level: x.Level * x.Height, Index: x.Index << x.Height}
		for _, length := range []int{0, 1, 31, 32, 33, 63, 64, 65, 32*x.Width - 32, 32*x.Width - 1, 32 * x.Width, 32*x.Width + 1, 32*x.Width + 32, 32 << x.Height, 9000} {
			// The spare room has digests enough, but it is not looked at.
			b := make([]byte, length, 10000)
			want := api.ErrTile
			if length == 32*x.Width {
				want = api.OK
			}
			if d, e := Digest(x, b, n); e != want || e != api.OK && d != (api.Digest{}) {
				t.Error(x, length, d, e)
			}
			if d, e := Root(x, b); e != want || e != api.OK && d != (api.Digest{}) {
				t.Error(x, length, d, e)
			}
		}
		if _, e := Root(x, nil); e != api.ErrTile {
			t.Error(x, e)
		}
		if _, e := Digest(x, nil, n); e != api.ErrTile {
			t.Error(x, e)
		}
	}
}

func TestOrderOfErrorsOutOfBytes(t *testing.T) {
	good, far := api.Tile{Height: 2, Width: 3}, api.Node{Level: 2, Index: 9}
	for _, x := range []struct {
		t    api.Tile
		b    []byte
		n    api.Node
		want api.Errno
	}{
		{api.Tile{Height: 2, Width: 5}, make([]byte, 5), far, api.ErrArg}, {api.Tile{Height: 2, Width: 5}, make([]byte, 160), api.Node{}, api.ErrArg},
		{api.Tile{Height: 9, Width: 5}, make([]byte, 160), api.Node{}, api.ErrArg}, {api.Tile{Height: -1, Width: 5}, nil, far, api.ErrArg}, {api.Tile{}, nil, api.Node{}, api.ErrArg},
		{api.Tile{Height: 2, Level: -1, Width: 1}, make([]byte, 32), api.Node{}, api.ErrArg}, {api.Tile{Height: 2, Index: -1, Width: 1}, make([]byte, 32), api.Node{}, api.ErrArg},
		{api.Tile{Height: 2, Width: -1}, nil, api.Node{}, api.ErrArg}, {api.Tile{Height: 2, Width: math.MaxInt}, nil, api.Node{}, api.ErrArg}, {api.Tile{Height: 2, Width: 1 << 59}, nil, api.Node{}, api.ErrArg},
		{good, make([]byte, 5), api.Node{Index: -1}, api.ErrArg}, {good, make([]byte, 96), api.Node{Level: 49}, api.ErrArg},
		{good, make([]byte, 95), far, api.ErrTile}, {good, make([]byte, 97), api.Node{Index: 3}, api.ErrTile}, {good, nil, api.Node{}, api.ErrTile},
		{good, make([]byte, 96), far, api.ErrRange}, {good, make([]byte, 96), api.Node{Index: 3}, api.ErrRange}, {good, make([]byte, 96), api.Node{Index: 2}, api.OK},
	} {
		if d, e := Digest(x.t, x.b, x.n); e != x.want || d != (api.Digest{}) {
			t.Error(x.t, len(x.b), x.n, d, e)
		}
	}
}

func TestRootOfNoTile(t *testing.T) {
	room := make([]byte, 300*32)
	for x := range someTiles {
		if mayBe(x) {
			continue
		}
		for _, b := range [][]byte{nil, room[:min(max(x.Width, 0), 300)*32]} {
			if d, e := Root(x, b); e != api.ErrArg || d != (api.Digest{}) {
				t.Fatal(x, len(b), d, e)
			}
		}
	}
}

func TestBytesAreNotChanged(t *testing.T) {
	room := bytes.Repeat([]byte{3, 1, 4, 1, 5}, 100)
	before := bytes.Clone(room)
	x := api.Tile{Height: 3, Width: 8}
	first, e := Root(x, room[:256])
	if e != api.OK {
		t.Fatal(e)
	}
	if _, e := Digest(x, room[:256], api.Node{Level: 2, Index: 1}); e != api.OK {
		t.Fatal(e)
	}
	if !bytes.Equal(room, before) {
		t.Error("changed")
	}
	for i := 256; i < len(room); i++ {
		room[i] = 0
	}
	if d, _ := Root(x, room[:256]); d != first {
		t.Error("the spare room was read")
	}
}

// P10.4

// countedWidth counts a tile's nodes that stand over leaves below n alone, by the words of the chapter.
func countedWidth(height, level, index, n int) int {
	count := 0
	for j := range 1 << height {
		l, i := nodeOf(height, level, index, j)
		if l.Cmp(whole(64)) > 0 {
			return 0
		}
		end := new(big.Int).Add(i, whole(1))
		if end.Mul(end, twoTo(l)).Cmp(whole(n)) > 0 {
			return count
		}
		count++
	}
	return count
}

func TestWidthsOfFewTiles(t *testing.T) {
	for _, x := range []struct{ height, level, index, n, want int }{
		{2, 0, 2, 11, 3}, {2, 0, 3, 11, 0}, {2, 0, 0, 11, 4}, {2, 1, 0, 11, 2}, {2, 1, 1, 11, 0}, {2, 2, 0, 11, 0}, {2, 2, 0, 16, 1},
		{1, 0, 0, 0, 0}, {1, 0, 0, 1, 1}, {8, 0, 0, 255, 255}, {8, 0, 0, 256, 256}, {8, 0, 0, 257, 256}, {8, 0, 1, 257, 1}, {8, 1, 0, 255, 0}, {8, 1, 0, 256, 1},
		{8, 6, 0, api.MaxSize, 1}, {8, 6, 0, api.MaxSize - 1, 0}, {8, 7, 0, api.MaxSize, 0}, {8, 5, 0, api.MaxSize - 1, 255}, {8, 5, 0, api.MaxSize, 256}, {8, 5, 1, api.MaxSize, 0},
		{1, 48, 0, api.MaxSize, 1}, {1, 49, 0, api.MaxSize, 0}, {1, 48, 1, api.MaxSize, 0}, {5, 9, 0, api.MaxSize, 8}, {5, 10, 0, api.MaxSize, 0},
		{8, 8, 0, api.MaxSize, 0}, {8, 1 << 61, 0, api.MaxSize, 0}, {4, 1 << 62, 0, 11, 0}, {8, 0, 1 << 56, api.MaxSize, 0}, {1, 0, math.MaxInt, api.MaxSize, 0}, {8, math.MaxInt, math.MaxInt, api.MaxSize, 0},
		{8, 0, 1<<40 - 1, api.MaxSize, 256}, {8, 0, 1<<40 - 1, api.MaxSize - 1, 255}, {8, 0, 1 << 40, api.MaxSize, 0},
	} {
		if w := width(t, x.height, x.level, x.index, x.n); w != x.want {
			t.Error(x, w)
		}
	}
}

func TestWidthsOfSmallLogs(t *testing.T) {
	for _, height := range heights() {
		for n := range most {
			for level := range 8 {
				for index := range n + 2 {
					if w := width(t, height, level, index, n); w != countedWidth(height, level, index, n) {
						t.Fatal(height, level, index, n, w)
					}
				}
			}
		}
	}
}

func TestWidthsOfGreatLogs(t *testing.T) {
	for _, height := range heights() {
		for i, n := range sizes() {
			if i%7 != 0 && n < api.MaxSize-1 {
				continue
			}
			for level := range 50/height + 2 {
				last := n >> min(level*height+height, 62)
				for _, index := range []int{0, 1, last - 1, last, last + 1, last / 2} {
					if index < 0 {
						continue
					}
					if w := width(t, height, level, index, n); w != countedWidth(height, level, index, n) {
						t.Fatal(height, level, index, n, w)
					}
				}
			}
		}
	}
}

func TestErrorsOfWidth(t *testing.T) {
	numbers := []int{math.MinInt, -1, 0, 1, 8, 9, 48, 63, 64, api.MaxSize, api.MaxSize + 1, 1 << 61, math.MaxInt}
	for _, height := range append(heights(), noHeights()...) {
		for _, level := range numbers {
			for _, index := range numbers {
				for _, n := range numbers {
					want := api.OK
					if height < 1 || height > 8 || level < 0 || index < 0 {
						want = api.ErrArg
					} else if n < 0 || n > api.MaxSize {
						want = api.ErrRange
					}
					if w, e := Width(height, level, index, n); e != want || e != api.OK && w != 0 {
						t.Fatal(height, level, index, n, w, e)
					}
				}
			}
		}
	}
}

func TestLevelsOfFewLogs(t *testing.T) {
	for _, x := range []struct{ height, n, want int }{
		{2, 11, 2}, {2, 0, 0}, {2, 1, 1}, {2, 3, 1}, {2, 4, 2}, {2, 15, 2}, {2, 16, 3}, {1, 1, 1}, {1, 2, 2}, {1, 3, 2}, {1, 4, 3},
		{8, 0, 0}, {8, 255, 1}, {8, 256, 2}, {8, 65535, 2}, {8, 65536, 3}, {8, api.MaxSize, 7}, {8, api.MaxSize - 1, 6}, {1, api.MaxSize, 49}, {1, api.MaxSize - 1, 48}, {5, api.MaxSize, 10}, {7, api.MaxSize, 7},
	} {
		if v := levels(t, x.height, x.n); v != x.want {
			t.Error(x, v)
		}
	}
}

func TestLevelsAreThoseThatHaveADigest(t *testing.T) {
	for _, height := range heights() {
		for _, n := range append(sizes(), 0, 1, 2, 5, 6, 9, 10) {
			want := 0
			for level := 0; level*height <= 48; level++ {
				if n/(1<<(level*height)) > 0 {
					want++
				}
			}
			if v := levels(t, height, n); v != want {
				t.Fatal(height, n, v)
			}
		}
	}
}

func TestErrorsOfLevels(t *testing.T) {
	for _, height := range append(heights(), noHeights()...) {
		for _, n := range edges() {
			want := api.OK
			if height < 1 || height > 8 {
				want = api.ErrArg
			} else if n < 0 || n > api.MaxSize {
				want = api.ErrRange
			}
			if v, e := Levels(height, n); e != want || e != api.OK && v != 0 {
				t.Fatal(height, n, v, e)
			}
		}
	}
}

func TestAllOfFewLogs(t *testing.T) {
	for _, x := range []struct {
		height, n int
		want      []api.Tile
	}{
		{2, 11, []api.Tile{{Height: 2, Width: 4}, {Height: 2, Index: 1, Width: 4}, {Height: 2, Index: 2, Width: 3}, {Height: 2, Level: 1, Width: 2}}},
		{2, 0, nil}, {2, 1, []api.Tile{{Height: 2, Width: 1}}}, {2, 4, []api.Tile{{Height: 2, Width: 4}, {Height: 2, Level: 1, Width: 1}}},
		{1, 4, []api.Tile{{Height: 1, Width: 2}, {Height: 1, Index: 1, Width: 2}, {Height: 1, Level: 1, Width: 2}, {Height: 1, Level: 2, Width: 1}}},
		{8, 255, []api.Tile{{Height: 8, Width: 255}}}, {8, 257, []api.Tile{{Height: 8, Width: 256}, {Height: 8, Index: 1, Width: 1}, {Height: 8, Level: 1, Width: 1}}},
	} {
		if l := slices.Collect(All(x.height, x.n)); !slices.Equal(l, x.want) {
			t.Error(x.height, x.n, l)
		}
	}
}

// allByCounting tells a log's tiles by the words of the chapter, of which none is beyond the leaves' number.
func allByCounting(height, n int) []api.Tile {
	var out []api.Tile
	for level := range 10 {
		for index := range n {
			if w := countedWidth(height, level, index, n); w > 0 {
				out = append(out, api.Tile{Height: height, Level: level, Index: index, Width: w})
			}
		}
	}
	return out
}

func TestAllOfSmallLogs(t *testing.T) {
	for _, height := range heights() {
		for n := range most {
			if l := slices.Collect(All(height, n)); !slices.Equal(l, allByCounting(height, n)) {
				t.Fatal(height, n, l)
			}
		}
	}
}

func TestAllIsNothing(t *testing.T) {
	for _, height := range append(heights(), noHeights()...) {
		for _, n := range []int{math.MinInt, -1, 0, 5, api.MaxSize + 1, math.MaxInt} {
			if n == 5 && height >= 1 && height <= 8 {
				continue
			}
			for x := range All(height, n) {
				t.Fatal(height, n, x)
			}
		}
	}
}

func TestAllIsLeftAnywhereAndRangedOverAgain(t *testing.T) {
	all := All(1, 11)
	want := slices.Collect(all)
	for stop := range len(want) {
		var got []api.Tile
		for x := range all {
			got = append(got, x)
			if len(got) > stop {
				break
			}
		}
		if !slices.Equal(got, want[:stop+1]) {
			t.Error(stop, got)
		}
	}
	at := 0
	for x := range all {
		if x != want[at] || !slices.Equal(slices.Collect(all), want) {
			t.Error(at, x)
		}
		at++
	}
	if at != len(want) {
		t.Error(at)
	}
}

func TestAllOfTheGreatestLogBegins(t *testing.T) {
	for _, height := range heights() {
		at := 0
		for x := range All(height, api.MaxSize) {
			if x != (api.Tile{Height: height, Index: at, Width: 1 << height}) {
				t.Fatal(height, at, x)
			}
			if at++; at == 1000 {
				break
			}
		}
		if at != 1000 {
			t.Error(height, at)
		}
	}
}

// P10.5

func TestNeedOfFewNodes(t *testing.T) {
	for _, x := range []struct {
		height int
		l      []api.Node
		want   []api.Tile
	}{
		{1, nil, nil}, {8, []api.Node{}, nil},
		{1, []api.Node{{Index: 0}, {Index: 1}, {Index: 2}}, []api.Tile{{Height: 1, Width: 2}, {Height: 1, Index: 1, Width: 1}}},
		{2, []api.Node{{Index: 2}, {Index: 0}}, []api.Tile{{Height: 2, Width: 3}}},
		{2, []api.Node{{Index: 0}, {Index: 2}, {Index: 1}}, []api.Tile{{Height: 2, Width: 3}}},
		{2, []api.Node{{Index: 9}, {Index: 1}, {Index: 8}, {Index: 3}}, []api.Tile{{Height: 2, Index: 2, Width: 2}, {Height: 2, Width: 4}}},
		{2, []api.Node{{Level: 2}, {Index: 0}, {Level: 3}, {Level: 1, Index: 1}}, []api.Tile{{Height: 2, Level: 1, Width: 2}, {Height: 2, Width: 4}}},
		{2, []api.Node{{Index: 5}, {Level: 2, Index: 5}}, []api.Tile{{Height: 2, Index: 1, Width: 2}, {Height: 2, Level: 1, Index: 1, Width: 2}}},
		{3, []api.Node{{Index: 4}, {Index: 4}, {Index: 4}}, []api.Tile{{Height: 3, Width: 5}}},
		{8, []api.Node{{Level: 48}, {Index: api.MaxSize - 1}, {Level: 47, Index: 1}, {Level: 40, Index: 3}}, []api.Tile{{Height: 8, Level: 6, Width: 1}, {Height: 8, Index: 1<<40 - 1, Width: 256}, {Height: 8, Level: 5, Width: 256}}},
	} {
		if l := need(t, x.height, x.l); !slices.Equal(l, x.want) {
			t.Error(x.height, x.l, l)
		}
	}
}

// needByLooking tells what is needed by going through the list that is told so far.
func needByLooking(t *testing.T, height int, l []api.Node) []api.Tile {
	var out []api.Tile
	for _, n := range l {
		x, _, _ := of(t, height, n)
		at := slices.IndexFunc(out, func(o api.Tile) bool { return o.Level == x.Level && o.Index == x.Index })
		if at < 0 {
			out = append(out, x)
		} else {
			out[at].Width = max(out[at].Width, x.Width)
		}
	}
	return out
}

func TestNeedOfManyNodes(t *testing.T) {
	var great []api.Node
	for n := range someNodes {
		if node.Valid(n) {
			great = append(great, n)
		}
	}
	back := slices.Clone(great)
	slices.Reverse(back)
	lists := [][]api.Node{great, back, slices.Concat(great[:300], back[:300], great[:300])}
	for n := range most {
		small := nodesIn(n)
		lists = append(lists, small)
		// A stride that shares no divisor with most lengths mixes the order.
		var mixed []api.Node
		for i := range small {
			mixed = append(mixed, small[i*37%len(small)])
		}
		lists = append(lists, mixed)
	}
	for _, height := range heights() {
		for _, l := range lists {
			if got := need(t, height, l); !slices.Equal(got, needByLooking(t, height, l)) {
				t.Fatal(height, len(l), got)
			}
		}
	}
}

func TestNeedIsTheSameEachTime(t *testing.T) {
	l := nodesIn(200)
	want := need(t, 2, l)
	for range 50 {
		if got := need(t, 2, l); !slices.Equal(got, want) {
			t.Fatal(got)
		}
	}
}

func TestErrorsOfNeed(t *testing.T) {
	for _, height := range noHeights() {
		for _, l := range [][]api.Node{nil, {}, {{}}, {{Level: -1}}} {
			if got, e := Need(height, l); e != api.ErrArg || len(got) != 0 {
				t.Error(height, l, got, e)
			}
		}
	}
	for n := range someNodes {
		if node.Valid(n) {
			continue
		}
		for _, l := range [][]api.Node{{n}, {n, {}}, {{}, n}, {{}, {Index: 9}, n, {Level: 1}}} {
			if got, e := Need(3, l); e != api.ErrArg || len(got) != 0 {
				t.Fatal(l, got, e)
			}
		}
	}
}

func TestNeedLeavesItsListAndReadsNoneBehind(t *testing.T) {
	room := []api.Node{{Index: 3}, {Index: 1}, {Level: -1}, {Level: -1}}
	before := slices.Clone(room)
	first := need(t, 1, room[:2])
	if !slices.Equal(room, before) {
		t.Error(room)
	}
	for i := range first {
		first[i] = api.Tile{Height: 99}
	}
	if again := need(t, 1, room[:2]); !slices.Equal(again, []api.Tile{{Height: 1, Index: 1, Width: 2}, {Height: 1, Width: 2}}) {
		t.Error(again)
	}
}

// P10.6

func TestThereAndBack(t *testing.T) {
	paths := map[string]api.Tile{}
	for _, x := range goodTiles() {
		s, e := Path(x)
		if e != api.OK {
			t.Fatal(x, e)
		}
		if y, e := Parse(s); y != x || e != api.OK {
			t.Fatal(x, s, y, e)
		}
		if y, there := paths[s]; there && y != x {
			t.Fatal(x, y, s)
		}
		paths[s] = x
	}
}

func TestPathOfParseIsTheText(t *testing.T) {
	for _, x := range []api.Tile{{Height: 8, Index: 1234067, Width: 256}, {Height: 8, Level: 1, Index: 5, Width: 17}, {Height: 1, Width: 1}, {Height: 3, Level: 12, Index: 99, Width: 2}} {
		for s := range changed(pathByDigits(x)) {
			y, e := Parse(s)
			if e != api.OK {
				continue
			}
			if back, e := Path(y); back != s || e != api.OK {
				t.Fatal(s, y, back, e)
			}
		}
	}
}

func TestEachNodeIsInOneTileAlone(t *testing.T) {
	for _, height := range heights() {
		full := make([]byte, 32<<height)
		for _, n := range nodesIn(40) {
			x, _, _ := of(t, height, n)
			found := 0
			for level := range 8 {
				for index := range 42 {
					y := api.Tile{Height: height, Level: level, Index: index, Width: 1 << height}
					if _, e := Digest(y, full, n); e == api.OK {
						found++
						if y.Level != x.Level || y.Index != x.Index {
							t.Fatal(height, n, x, y)
						}
					}
				}
			}
			if found != 1 {
				t.Fatal(height, n, found)
			}
		}
	}
}

// P10.7

func TestDigestsOutOfALogsTiles(t *testing.T) {
	l := someLeaves(600)
	for _, n := range []int{1, 2, 3, 4, 5, 7, 8, 9, 11, 16, 31, 33, 64, 65, 100, 255, 256, 257, 513, 600} {
		for _, height := range heights() {
			tiles := map[place]api.Tile{}
			held := map[place][]byte{}
			for x := range All(height, n) {
				tiles[placeOf(x)] = x
				held[placeOf(x)] = filled(t, l, x)
			}
			for _, m := range nodesIn(n) {
				x, _, _ := of(t, height, m)
				leaves, _ := node.Leaves(m)
				want, _ := tree.Sub(l, leaves)
				p := placeOf(x)
				for _, w := range []int{x.Width, tiles[p].Width} {
					x.Width = w
					if d, e := Digest(x, held[p][:32*w], m); d != want || e != api.OK {
						t.Fatal(n, height, m, x, d, e)
					}
				}
			}
		}
	}
}

func TestRootOfAFullTileStandsInTheLevelAbove(t *testing.T) {
	l := someLeaves(600)
	for _, height := range heights() {
		full := 0
		for x := range All(height, len(l)) {
			if x.Width < 1<<height {
				continue
			}
			full++
			up := api.Node{Level: (x.Level + 1) * height, Index: x.Index}
			above, from, to := of(t, height, up)
			b := filled(t, l, above)
			root, e := Root(x, filled(t, l, x))
			if d, f := Digest(above, b, up); e != api.OK || f != api.OK || root != d {
				t.Fatal(height, x, above, e, f)
			}
			if above.Level != x.Level+1 || to != from+1 || !bytes.Equal(root[:], b[32*from:32*to]) {
				t.Fatal(height, x, above, from, to)
			}
		}
		if full == 0 {
			t.Error("no full tile", height)
		}
	}
}

// P10.8

func TestDigestsTogether(t *testing.T) {
	for _, height := range heights() {
		for _, n := range []int{0, 1, 2, 3, 4, 7, 8, 9, 63, 64, 65, 255, 256, 257, 1000, 4095, 4096, 65535, 65536, 65537, 100003} {
			digests, full := map[int]int{}, map[int]int{}
			for x := range All(height, n) {
				digests[x.Level] += x.Width
				if x.Width == 1<<height {
					full[x.Level]++
				}
			}
			if digests[0] != n {
				t.Error(height, n, digests)
			}
			for level := range 20 {
				if digests[level+1] != full[level] {
					t.Error(height, n, level, digests, full)
				}
			}
		}
	}
}

func TestAFullTileStaysInGreaterLogs(t *testing.T) {
	for _, height := range heights() {
		for n := range most {
			there := map[api.Tile]int{}
			for x := range All(height, n+1) {
				there[x]++
			}
			for x := range All(height, n) {
				if x.Width == 1<<height && there[x] != 1 {
					t.Fatal(height, n, x)
				}
			}
		}
		for _, n := range sizes() {
			for _, index := range []int{0, 1, n>>height - 1, n >> height} {
				if index < 0 || width(t, height, 0, index, n) < 1<<height {
					continue
				}
				for _, greater := range []int{min(n+1, api.MaxSize), n + (api.MaxSize-n)/2, api.MaxSize} {
					if width(t, height, 0, index, greater) != 1<<height {
						t.Fatal(height, index, n, greater)
					}
				}
			}
		}
	}
}
