package hash

import (
	"bytes"
	"crypto/sha256"
	"encoding"
	"encoding/binary"
	"encoding/hex"
	"math"
	"math/bits"
	"math/rand/v2"
	"slices"
	"strings"
	"testing"

	"coppice/api"
)

const twoBlocks = "abcdbcdecdefdefgefghfghighijhijkijkljklmklmnlmnomnopnopq"

// drawn tells n bytes that are the same in each run.
func drawn(seed uint64, n int) []byte {
	r := rand.New(rand.NewPCG(seed, uint64(n)))
	b := make([]byte, n)
	for i := range b {
		b[i] = byte(r.Uint32())
	}
	return b
}

func drawnWords(seed uint64) (w [8]uint32) {
	b := drawn(seed, 32)
	for i := range w {
		w[i] = binary.BigEndian.Uint32(b[4*i:])
	}
	return w
}

func asWords(d api.Digest) (w [8]uint32) {
	for i := range w {
		w[i] = binary.BigEndian.Uint32(d[4*i:])
	}
	return w
}

func asBlock(b []byte) (block [64]byte) {
	if len(b) != len(block) {
		panic("no block")
	}
	copy(block[:], b)
	return block
}

// saved lays a state's bytes by hand.
func saved(words [8]uint32, size uint64, rest []byte) []byte {
	var b []byte
	for _, w := range words {
		b = binary.BigEndian.AppendUint32(b, w)
	}
	return append(binary.BigEndian.AppendUint64(b, size), rest...)
}

func loaded(t *testing.T, b []byte) *State {
	t.Helper()
	s, e := Load(b)
	if s == nil || e != api.OK {
		t.Fatalf("% x: %v", b, e)
	}
	return s
}

func grown(t *testing.T, pieces ...[]byte) *State {
	t.Helper()
	s := New()
	for _, p := range pieces {
		put(t, s, p)
	}
	return s
}

func put(t *testing.T, s *State, b []byte) {
	t.Helper()
	if e := s.Write(b); e != api.OK {
		t.Fatal(len(b), e)
	}
}

// theLibrarys tells the library's digest of more, gone on with from words and a length.
func theLibrarys(t *testing.T, words [8]uint32, size uint64, rest, more []byte) api.Digest {
	t.Helper()
	b := []byte("sha\x03")
	for _, w := range words {
		b = binary.BigEndian.AppendUint32(b, w)
	}
	b = append(b, rest...)
	b = append(b, make([]byte, 64-len(rest))...)
	b = binary.BigEndian.AppendUint64(b, size)
	h := sha256.New()
	if err := h.(encoding.BinaryUnmarshaler).UnmarshalBinary(b); err != nil {
		t.Fatal(err)
	}
	h.Write(more)
	return api.Digest(h.Sum(nil))
}

// theLibrarysWords tells the library's words behind one block, from any words on.
func theLibrarysWords(t *testing.T, words [8]uint32, block [64]byte) (out [8]uint32) {
	t.Helper()
	b := []byte("sha\x03")
	for _, w := range words {
		b = binary.BigEndian.AppendUint32(b, w)
	}
	b = append(b, make([]byte, 64+8)...)
	h := sha256.New()
	if err := h.(encoding.BinaryUnmarshaler).UnmarshalBinary(b); err != nil {
		t.Fatal(err)
	}
	h.Write(block[:])
	kept, err := h.(encoding.BinaryMarshaler).MarshalBinary()
	if err != nil {
		t.Fatal(err)
	}
	for i := range out {
		out[i] = binary.BigEndian.Uint32(kept[4+4*i:])
	}
	return out
}

// P2.1

func TestTheFirstWords(t *testing.T) {
	want := [8]uint32{0x6a09e667, 0xbb67ae85, 0x3c6ef372, 0xa54ff53a, 0x510e527f, 0x9b05688c, 0x1f83d9ab, 0x5be0cd19}
	b := Begin()
	if b != want {
		t.Errorf("%08x", b)
	}
	b[0]++
	if Begin() != want {
		t.Error("the first words can be changed")
	}
}

func TestTheScheduleOfAKnownBlock(t *testing.T) {
	const want = `61626380 00000000 00000000 00000000 00000000 00000000 00000000 00000000
		00000000 00000000 00000000 00000000 00000000 00000000 00000000 00000018
		61626380 000f0000 7da86405 600003c6 3e9d7b78 0183fc00 12dcbfdb e2e2c38e
		c8215c1a b73679a2 e5bc3909 32663c5b 9d209d67 ec8726cb 702138a4 d3b7973b
		93f5997f 3b68ba73 aff4ffc1 f10a5c62 0a8b3996 72af830a 9409e33e 24641522
		9f47bf94 f0a64f5a 3e246a79 27333ba3 0c4763f2 840abf27 7a290d5d 065c43da
		fb3e89cb cc7617db b9e66c34 a9993667 84badedd c21462bc 1487472c b20f7a99
		ef57b9cd ebe6b238 9fe3095e 78bc8d4b a43fcf15 668b2ff8 eeaba2cc 12b1edeb`
	p, _ := Padding(3)
	w := Schedule(asBlock(append([]byte("abc"), p...)))
	for i, x := range strings.Fields(want) {
		if h := hex.EncodeToString(binary.BigEndian.AppendUint32(nil, w[i])); h != x {
			t.Errorf("w(%d) is %s, not %s", i, h, x)
		}
	}
}

func TestTheScheduleFollowsItsRule(t *testing.T) {
	ror := func(x uint32, k int) uint32 { return x>>k | x<<(32-k) }
	s0 := func(x uint32) uint32 { return ror(x, 7) ^ ror(x, 18) ^ x>>3 }
	s1 := func(x uint32) uint32 { return ror(x, 17) ^ ror(x, 19) ^ x>>10 }
	for seed := range uint64(50) {
		block := asBlock(drawn(seed, 64))
		w := Schedule(block)
		for i := range 16 {
			if w[i] != binary.BigEndian.Uint32(block[4*i:]) {
				t.Fatal(seed, i)
			}
		}
		for i := 16; i < 64; i++ {
			if w[i] != s1(w[i-2])+w[i-7]+s0(w[i-15])+w[i-16] {
				t.Fatal(seed, i)
			}
		}
	}
}

func TestCompressFromAnyWords(t *testing.T) {
	blocks := [][64]byte{{}, asBlock(bytes.Repeat([]byte{255}, 64))}
	words := [][8]uint32{{}, Begin(), {1, 2, 3, 4, 5, 6, 7, 8}}
	for seed := range uint64(30) {
		blocks = append(blocks, asBlock(drawn(seed, 64)))
		words = append(words, drawnWords(seed+100))
	}
	for _, h := range words {
		for _, block := range blocks {
			if got, want := Compress(h, block), theLibrarysWords(t, h, block); got != want {
				t.Fatalf("%08x % x: %08x, not %08x", h, block, got, want)
			}
		}
	}
}

// P2.2

func TestPaddingOfKnownLengths(t *testing.T) {
	for _, x := range []struct {
		n, size int
		length  uint64
	}{
		{0, 64, 0}, {1, 63, 8}, {3, 61, 24}, {54, 10, 432}, {55, 9, 440}, {56, 72, 448}, {57, 71, 456}, {63, 65, 504}, {64, 64, 512}, {65, 63, 520},
		{119, 9, 952}, {120, 72, 960}, {1 << 32, 64, 1 << 35}, {1<<61 - 73, 9, 0xfffffffffffffdb8},
		{1<<61 - 64, 64, 0xfffffffffffffe00}, {1<<61 - 9, 9, 0xffffffffffffffb8}, {1<<61 - 8, 72, 0xffffffffffffffc0}, {1<<61 - 1, 65, 0xfffffffffffffff8},
	} {
		p, e := Padding(x.n)
		if e != api.OK || len(p) != x.size {
			t.Error(x.n, len(p), e)
			continue
		}
		end := len(p) - 8
		if p[0] != 0x80 || bytes.Count(p[1:end], []byte{0}) != end-1 || binary.BigEndian.Uint64(p[end:]) != x.length {
			t.Errorf("%d: % x", x.n, p)
		}
	}
}

func TestPaddingOutsideItsRange(t *testing.T) {
	for _, x := range []struct {
		n int
		e api.Errno
	}{{-1, api.ErrArg}, {-64, api.ErrArg}, {math.MinInt, api.ErrArg}, {1 << 61, api.ErrBig}, {1<<61 + 5, api.ErrBig}, {math.MaxInt, api.ErrBig}} {
		if p, e := Padding(x.n); p != nil || e != x.e {
			t.Error(x.n, p, e)
		}
	}
}

// P2.3

func TestDigestsOfTheExamples(t *testing.T) {
	for _, x := range [][2]string{
		{"", "e3b0c44298fc1c149afbf4c8996fb92427ae41e4649b934ca495991b7852b855"},
		{"abc", "ba7816bf8f01cfea414140de5dae2223b00361a396177a9cb410ff61f20015ad"},
		{twoBlocks, "248d6a61d20638b8e5c026930c3e6039a33ce45964ff2167f6ecedd419db06c1"},
		{strings.Repeat("a", 1000000), "cdc76e5c9914fb9281a1c7e284d73e67f1809a48a497200e046d39ccc7112cd0"},
	} {
		d := Sum([]byte(x[0]))
		if hex.EncodeToString(d[:]) != x[1] {
			t.Errorf("%.80q: %x", x[0], d)
		}
	}
	if Sum(nil) != Sum([]byte{}) {
		t.Error("nil and nothing differ")
	}
}

func TestDigestsOfAllShortLengths(t *testing.T) {
	for n := range 400 {
		for _, b := range [][]byte{drawn(1, n), make([]byte, n), bytes.Repeat([]byte{255}, n)} {
			if Sum(b) != api.Digest(sha256.Sum256(b)) {
				t.Fatal(n)
			}
		}
	}
}

func TestTheDigestIsCompressByCompress(t *testing.T) {
	for _, n := range []int{0, 1, 55, 56, 63, 64, 65, 119, 120, 128, 300} {
		b := drawn(2, n)
		p, _ := Padding(n)
		h := Begin()
		for block := range slices.Chunk(slices.Concat(b, p), 64) {
			h = Compress(h, asBlock(block))
		}
		if asWords(Sum(b)) != h {
			t.Error(n)
		}
	}
}

// P2.4

func TestAStateThatGrows(t *testing.T) {
	s := New()
	if s.Len() != 0 || s.Sum() != Sum(nil) {
		t.Error("a new state has had something")
	}
	b := drawn(3, 400)
	for n := range b {
		put(t, s, b[n:n+1])
		if s.Len() != n+1 || s.Sum() != Sum(b[:n+1]) {
			t.Fatal(n)
		}
	}
}

func TestPiecesOfNoBytes(t *testing.T) {
	for _, n := range []int{0, 1, 63, 64, 65} {
		s := grown(t, nil, drawn(4, n), nil, []byte{}, drawn(5, 0))
		if s.Len() != n || s.Sum() != Sum(drawn(4, n)) {
			t.Error(n)
		}
	}
}

func TestAskingLeavesTheStateAsItWas(t *testing.T) {
	b := drawn(6, 300)
	for n := range 200 {
		s, still := grown(t, b[:n]), grown(t, b[:n])
		first := s.Sum()
		s.Save()
		s.Len()
		s.Clone()
		if s.Sum() != first || *s != *still {
			t.Fatal(n)
		}
		put(t, s, b[n:])
		if s.Len() != 300 || s.Sum() != Sum(b) {
			t.Fatal(n)
		}
	}
}

func TestAnswersOfOneStateAreTheSameTwice(t *testing.T) {
	s := grown(t, drawn(7, 100))
	if s.Sum() != s.Sum() || s.Len() != s.Len() || !bytes.Equal(s.Save(), s.Save()) || *s.Clone() != *s.Clone() {
		t.Error("asked twice, it answers otherwise")
	}
}

func TestACloneGoesOnByItself(t *testing.T) {
	for _, n := range []int{0, 1, 63, 64, 65, 130} {
		b := drawn(8, n)
		s := grown(t, b)
		c := s.Clone()
		if c == s || c.Len() != n || c.Sum() != Sum(b) {
			t.Fatal(n)
		}
		put(t, c, []byte("left"))
		put(t, s, []byte("right and longer"))
		if c.Len() != n+4 || c.Sum() != Sum(slices.Concat(b, []byte("left"))) {
			t.Error(n, "the clone")
		}
		if s.Len() != n+16 || s.Sum() != Sum(slices.Concat(b, []byte("right and longer"))) {
			t.Error(n, "the state")
		}
	}
}

func TestACloneOfALoadedState(t *testing.T) {
	words, rest := drawnWords(9), drawn(9, 5)
	s := loaded(t, saved(words, 64*7+5, rest))
	c := s.Clone()
	put(t, c, []byte("x"))
	if c.Sum() != theLibrarys(t, words, 64*7+5, rest, []byte("x")) || s.Sum() != theLibrarys(t, words, 64*7+5, rest, nil) {
		t.Error("it does not go on by itself")
	}
}

func TestWriteBeyondTheGreatestLength(t *testing.T) {
	const most = 1<<61 - 1
	for _, left := range []int{0, 1, 2, 63, 64, 65, 200} {
		size := uint64(most - left)
		words, rest := drawnWords(10), drawn(10, int(size%64))
		s := loaded(t, saved(words, size, rest))
		for _, more := range []int{1, 2, 64, 300} {
			was := *s
			if e := s.Write(drawn(11, left+more)); e != api.ErrBig || *s != was || s.Len() != int(size) {
				t.Error(left, more, e, s.Len())
			}
		}
		if s.Sum() != theLibrarys(t, words, size, rest, nil) {
			t.Error(left, "refused bytes changed the digest")
		}
		b := drawn(12, left)
		put(t, s, b)
		if s.Len() != most || s.Sum() != theLibrarys(t, words, size, rest, b) {
			t.Error(left, s.Len())
		}
		put(t, s, nil)
		if e := s.Write([]byte{0}); e != api.ErrBig || s.Len() != most {
			t.Error(left, e)
		}
	}
}

// Rule 1

func TestStatesThatNoCallMade(t *testing.T) {
	for _, s := range []*State{nil, {}} {
		for _, b := range [][]byte{nil, {1}, drawn(13, 200)} {
			if e := s.Write(b); e != api.ErrNil {
				t.Error(e)
			}
		}
		if s.Sum() != (api.Digest{}) || s.Len() != 0 || s.Clone() != nil || len(s.Save()) != 0 {
			t.Error("it answers something")
		}
		if s != nil && *s != (State{}) {
			t.Error("it has changed")
		}
	}
}

// P2.5

func TestSavedBytes(t *testing.T) {
	b := drawn(14, 200)
	for n := range 200 {
		whole := n / 64 * 64
		h := Begin()
		for block := range slices.Chunk(b[:whole], 64) {
			h = Compress(h, asBlock(block))
		}
		if got := grown(t, b[:n]).Save(); !bytes.Equal(got, saved(h, uint64(n), b[whole:n])) {
			t.Errorf("%d: % x", n, got)
		}
	}
}

func TestALoadedStateGoesOn(t *testing.T) {
	b := drawn(15, 300)
	for n := range 200 {
		s := grown(t, b[:n])
		o := loaded(t, s.Save())
		if o.Len() != n || o.Sum() != Sum(b[:n]) || !bytes.Equal(o.Save(), s.Save()) || *o != *s {
			t.Fatal(n)
		}
		put(t, o, b[n:])
		if o.Len() != 300 || o.Sum() != Sum(b) || s.Len() != n || s.Sum() != Sum(b[:n]) {
			t.Fatal(n)
		}
	}
}

func TestALoadedStateOfAnyWords(t *testing.T) {
	for _, size := range []uint64{64, 65, 127, 128, 1<<32 + 7, 1<<61 - 64, 1<<61 - 2, 1<<61 - 1} {
		for _, words := range [][8]uint32{{}, Begin(), drawnWords(size)} {
			b := saved(words, size, drawn(16, int(size%64)))
			s := loaded(t, b)
			if s.Len() != int(size) || !bytes.Equal(s.Save(), b) || s.Sum() != theLibrarys(t, words, size, b[40:], nil) {
				t.Error(size, s.Len())
			}
		}
	}
}

func refused(t *testing.T, what string, b []byte) {
	t.Helper()
	if s, e := Load(b); s != nil || e != api.ErrState {
		t.Errorf("%s: %v", what, e)
	}
}

func TestBytesThatAreNoState(t *testing.T) {
	refused(t, "nil", nil)
	refused(t, "forty bytes 0", make([]byte, 40))
	whole := grown(t, drawn(17, 64)).Save()
	for n := range 40 {
		refused(t, "fewer than forty", whole[:n])
		refused(t, "fewer than forty", New().Save()[:n])
	}
	for _, size := range []uint64{1 << 61, 1<<61 + 1, 1<<61 + 63, 1 << 62, 1 << 63, 1<<63 + 64, math.MaxUint64 - 63, math.MaxUint64} {
		refused(t, "too long", saved(drawnWords(17), size, drawn(17, int(size%64))))
		refused(t, "too long", saved(Begin(), size, drawn(17, int(size%64))))
	}
}

func TestTooManyOrTooFewBytesBehind(t *testing.T) {
	for _, size := range []uint64{0, 1, 63, 64, 65, 127, 128, 1000, 1<<61 - 1} {
		for n := range 140 {
			if n != int(size%64) {
				refused(t, "bytes behind", saved(Begin(), size, drawn(18, n)))
			}
		}
		loaded(t, saved(Begin(), size, drawn(18, int(size%64))))
	}
}

func TestOtherWordsAheadOfABlock(t *testing.T) {
	for size := range uint64(64) {
		for i := range 8 {
			words := Begin()
			words[i] ^= 1 << (size % 32)
			refused(t, "other words", saved(words, size, drawn(19, int(size))))
		}
		refused(t, "no words", saved([8]uint32{}, size, drawn(19, int(size))))
		if s := loaded(t, saved(Begin(), size, drawn(19, int(size)))); s.Sum() != Sum(drawn(19, int(size))) {
			t.Error(size)
		}
	}
}

// P2.6

func TestInPieces(t *testing.T) {
	for seed := range uint64(200) {
		r := rand.New(rand.NewPCG(seed, 1))
		b := drawn(seed, r.IntN(1000))
		s := New()
		for at := 0; at < len(b); {
			n := min(r.IntN(150), len(b)-at)
			put(t, s, b[at:at+n])
			at += n
			switch r.IntN(4) {
			case 0:
				s = loaded(t, s.Save())
			case 1:
				s = s.Clone()
			case 2:
				s.Sum()
			}
		}
		if s.Len() != len(b) || s.Sum() != Sum(b) {
			t.Fatal(seed)
		}
	}
}

// P2.7

func TestLengthenedByAnybody(t *testing.T) {
	for _, n := range []int{0, 1, 55, 56, 63, 64, 100, 119, 120} {
		secret := drawn(20, n)
		p, _ := Padding(n)
		for _, more := range [][]byte{nil, []byte("more"), drawn(21, 64), drawn(22, 130)} {
			s := loaded(t, saved(asWords(Sum(secret)), uint64(n+len(p)), nil))
			put(t, s, more)
			if s.Sum() != Sum(slices.Concat(secret, p, more)) {
				t.Error(n, len(more))
			}
		}
	}
}

// P2.8

// restingWords tells the words that a block leads to themselves: the rounds are gone back from noughts, as those words are what is added at the end.
func restingWords(block [64]byte) [8]uint32 {
	w := Schedule(block)
	var r [8]uint32
	for t := 63; t >= 0; t-- {
		a, b, c, e, f, g := r[1], r[2], r[3], r[5], r[6], r[7]
		v := (bits.RotateLeft32(a, -2) ^ bits.RotateLeft32(a, -13) ^ bits.RotateLeft32(a, -22)) + (a&b ^ a&c ^ b&c)
		u := r[0] - v
		d := r[4] - u
		h := u - (bits.RotateLeft32(e, -6) ^ bits.RotateLeft32(e, -11) ^ bits.RotateLeft32(e, -25)) - (e&f ^ ^e&g) - constants[t] - w[t]
		r = [8]uint32{a, b, c, d, e, f, g, h}
	}
	return r
}

func TestSameWordsBehindAsManyBlocks(t *testing.T) {
	for seed := range uint64(20) {
		block := drawn(seed, 64)
		words := restingWords(asBlock(block))
		if Compress(words, asBlock(block)) != words {
			t.Fatal("the words do not rest")
		}
		for _, more := range [][]byte{nil, []byte("x"), drawn(23, 64), drawn(24, 130)} {
			met := loaded(t, saved(words, 64, nil))
			put(t, met, block)
			put(t, met, more)
			same := loaded(t, saved(words, 128, nil))
			put(t, same, more)
			if met.Sum() != same.Sum() || met.Len() != same.Len() {
				t.Error(seed, len(more), "as long, and they differ")
			}
			longer := loaded(t, saved(words, 192, nil))
			put(t, longer, more)
			if met.Sum() == longer.Sum() {
				t.Error(seed, len(more), "not as long, and they are the same")
			}
		}
	}
}

// Rule 4

// inMidst tells bytes with room ahead and behind that must stay as it is.
func inMidst(b []byte) (whole, part []byte) {
	whole = slices.Concat([]byte{7, 7, 7}, b, bytes.Repeat([]byte{9}, 100))
	return whole, whole[3 : 3+len(b)]
}

func TestWhatIsHandedInStaysAsItIs(t *testing.T) {
	state := grown(t, drawn(25, 70)).Save()
	for _, b := range [][]byte{nil, {1}, drawn(26, 56), drawn(27, 64), drawn(28, 130), state} {
		whole, part := inMidst(b)
		was := slices.Clone(whole)
		Sum(part)
		New().Write(part)
		grown(t, drawn(29, 60)).Write(part)
		Load(part)
		if !bytes.Equal(whole, was) {
			t.Error(len(b))
		}
	}
}

func TestWhatIsBehindTheLengthIsNotRead(t *testing.T) {
	_, part := inMidst(drawn(30, 50))
	if Sum(part) != Sum(drawn(30, 50)) || grown(t, part).Sum() != Sum(drawn(30, 50)) {
		t.Error("the spare room is in the digest")
	}
	_, part = inMidst(saved(Begin(), 50, nil))
	refused(t, "the bytes stand in the spare room", part)
}

func TestWhatWasHandedInIsNotKept(t *testing.T) {
	b := drawn(31, 90)
	s := grown(t, b)
	state := s.Save()
	o := loaded(t, state)
	clear(b)
	clear(state)
	if s.Sum() != Sum(drawn(31, 90)) || o.Sum() != Sum(drawn(31, 90)) {
		t.Error("it hangs on what was handed in")
	}
}

func TestWhatIsHandedOutIsNew(t *testing.T) {
	s := grown(t, drawn(32, 90))
	state := s.Save()
	was := slices.Clone(state)
	clear(state[:cap(state)])
	if !bytes.Equal(s.Save(), was) || s.Sum() != Sum(drawn(32, 90)) {
		t.Error("the state hangs on what was handed out")
	}
	p, _ := Padding(3)
	first := slices.Clone(p)
	clear(p[:cap(p)])
	if again, _ := Padding(3); !bytes.Equal(again, first) {
		t.Error("the padding hangs on what was handed out")
	}
}

func BenchmarkSumOfANode(b *testing.B) {
	x := drawn(33, 65)
	for b.Loop() {
		Sum(x)
	}
}
