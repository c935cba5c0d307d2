package mac

import (
	"bytes"
	"crypto/hkdf"
	"crypto/hmac"
	"crypto/sha256"
	"encoding/binary"
	"encoding/hex"
	"math"
	"math/rand/v2"
	"slices"
	"strings"
	"testing"

	"coppice/api"
	"coppice/hash"
)

// drawn tells n bytes that are the same in each run.
func drawn(seed uint64, n int) []byte {
	r := rand.New(rand.NewPCG(seed, uint64(n)))
	b := make([]byte, n)
	for i := range b {
		b[i] = byte(r.Uint32())
	}
	return b
}

func drawnDigest(seed uint64) api.Digest { return api.Digest(drawn(seed, 32)) }

func unhex(t *testing.T, s string) []byte {
	t.Helper()
	b, err := hex.DecodeString(s)
	if err != nil {
		t.Fatal(err)
	}
	return b
}

// theLibrarys tells the library's keyed digest.
func theLibrarys(key, message []byte) api.Digest {
	h := hmac.New(sha256.New, key)
	h.Write(message)
	return api.Digest(h.Sum(nil))
}

func put(t *testing.T, k *Keyed, b []byte) {
	t.Helper()
	if e := k.Write(b); e != api.OK {
		t.Fatal(len(b), e)
	}
}

func grown(t *testing.T, key []byte, pieces ...[]byte) *Keyed {
	t.Helper()
	k := New(key)
	for _, p := range pieces {
		put(t, k, p)
	}
	return k
}

func spread(t *testing.T, key api.Digest, info []byte, n int) []byte {
	t.Helper()
	b, e := Expand(key, info, n)
	if e != api.OK || len(b) != n {
		t.Fatal(n, len(b), e)
	}
	return b
}

func child(t *testing.T, seed api.Digest, purpose string, i int) api.Digest {
	t.Helper()
	d, e := Child(seed, purpose, i)
	if e != api.OK {
		t.Fatalf("%q %d: %v", purpose, i, e)
	}
	return d
}

// P3.1

func TestKnownMacs(t *testing.T) {
	for _, x := range []struct {
		key, message []byte
		want         string
	}{
		{[]byte("key"), []byte("The quick brown fox jumps over the lazy dog"), "f7bc83f430538424b13298e6aa6fb143ef4d59a14946175997479dbc2d1a3cd8"},
		{nil, nil, "b613679a0814d9ec772f95d778c35fc5ff1697c493715653c6c712144292c5ad"},
		{bytes.Repeat([]byte{0x0b}, 20), []byte("Hi There"), "b0344c61d8db38535ca8afceaf0bf12b881dc200c9833da726e9376c2e32cff7"},
		{[]byte("Jefe"), []byte("what do ya want for nothing?"), "5bdcc146bf60754e6a042426089575c75a003f089d2739839dec58b964ec3843"},
		{bytes.Repeat([]byte{0xaa}, 20), bytes.Repeat([]byte{0xdd}, 50), "773ea91e36800e46854db8ebd09181a72959098b3ef8c122d9635514ced565fe"},
		{bytes.Repeat([]byte{0xaa}, 131), []byte("Test Using Larger Than Block-Size Key - Hash Key First"), "60e431591ee0b67f0d8a26aacbf5b77f8e0bc6213728c5140546040f0ee37f54"},
	} {
		d := Mac(x.key, x.message)
		if hex.EncodeToString(d[:]) != x.want {
			t.Errorf("%q %q: %x", x.key, x.message, d)
		}
	}
}

func TestMacsOfAllShortLengths(t *testing.T) {
	for n := range 200 {
		for _, m := range []int{0, 1, 55, 56, 63, 64, 65, 130} {
			for _, key := range [][]byte{drawn(1, n), make([]byte, n), bytes.Repeat([]byte{255}, n)} {
				if message := drawn(2, m); Mac(key, message) != theLibrarys(key, message) {
					t.Fatal("key", n, "message", m)
				}
			}
		}
	}
	for m := range 300 {
		if Mac(drawn(3, 32), drawn(4, m)) != theLibrarys(drawn(3, 32), drawn(4, m)) {
			t.Fatal("message", m)
		}
	}
}

func TestAMacIsOneDigestInAnother(t *testing.T) {
	for _, n := range []int{0, 1, 32, 63, 64, 65, 129} {
		key, message := drawn(5, n), drawn(6, 70)
		long := slices.Clone(key)
		if n > 64 {
			d := hash.Sum(key)
			long = d[:]
		}
		long = append(long, make([]byte, 64-len(long))...)
		inner, outer := slices.Clone(long), slices.Clone(long)
		for i := range long {
			inner[i] ^= 0x36
			outer[i] ^= 0x5c
		}
		within := hash.Sum(append(inner, message...))
		if Mac(key, message) != hash.Sum(append(outer, within[:]...)) {
			t.Error(n)
		}
	}
}

func TestKeysAboutABlock(t *testing.T) {
	message := []byte("message")
	for _, n := range []int{65, 66, 200} {
		key := drawn(7, n)
		d := hash.Sum(key)
		if Mac(key, message) != Mac(d[:], message) {
			t.Error(n, "is not taken by its digest")
		}
	}
	for _, n := range []int{0, 1, 32, 63} {
		key := drawn(8, n)
		if Mac(key, message) != Mac(append(key, make([]byte, 64-n)...), message) {
			t.Error(n, "has no noughts behind")
		}
	}
	for _, n := range []int{63, 64} {
		key := drawn(9, n)
		d := hash.Sum(key)
		if Mac(key, message) == Mac(d[:], message) {
			t.Error(n, "is taken by its digest")
		}
	}
	if Mac(make([]byte, 64), message) == Mac(make([]byte, 65), message) {
		t.Error("a nought beyond the block is one of the block's")
	}
	if Mac(nil, nil) != Mac([]byte{}, []byte{}) {
		t.Error("nil and nothing differ")
	}
}

// P3.2

func TestANewOneHasHadNothing(t *testing.T) {
	for _, n := range []int{0, 1, 63, 64, 65, 200} {
		key := drawn(10, n)
		if New(key).Sum() != Mac(key, nil) || New(key).Sum() != theLibrarys(key, nil) {
			t.Error(n)
		}
	}
}

func TestAKeyedDigestThatGrows(t *testing.T) {
	b := drawn(11, 300)
	for _, n := range []int{0, 32, 64, 65} {
		key := drawn(12, n)
		k := New(key)
		for i := range b {
			put(t, k, b[i:i+1])
			if k.Sum() != Mac(key, b[:i+1]) || k.Sum() != theLibrarys(key, b[:i+1]) {
				t.Fatal(n, i)
			}
		}
	}
}

func TestSumLeavesTheKeyedDigestAsItWas(t *testing.T) {
	key, b := drawn(13, 40), drawn(14, 200)
	for n := range b {
		k := grown(t, key, b[:n])
		first := k.Sum()
		for range 3 {
			if k.Sum() != first {
				t.Fatal(n, "it answers otherwise")
			}
		}
		put(t, k, b[n:])
		if k.Sum() != Mac(key, b) {
			t.Fatal(n, "more does not stand behind")
		}
	}
}

func TestPiecesOfNoBytes(t *testing.T) {
	key := drawn(15, 32)
	k := grown(t, key, nil, []byte{}, []byte("a"), nil, []byte{}, []byte("b"), nil)
	if k.Sum() != Mac(key, []byte("ab")) {
		t.Error("a piece of no bytes puts something behind")
	}
}

func TestTwoOfOneKeyGoOnByThemselves(t *testing.T) {
	key := drawn(16, 32)
	one, two := New(key), New(key)
	put(t, one, []byte("left"))
	put(t, two, []byte("right"))
	if one.Sum() != Mac(key, []byte("left")) || two.Sum() != Mac(key, []byte("right")) || New(key).Sum() != Mac(key, nil) {
		t.Error("they share what was written")
	}
}

// P3.3

func TestExtract(t *testing.T) {
	for _, x := range [][3]string{
		{"000102030405060708090a0b0c", strings.Repeat("0b", 22), "077709362c2e32df0ddc3f0dc47bba6390b6c73bb50f9c3122ec844ad7c2b3e5"},
		{"", strings.Repeat("0b", 22), "19ef24a32c717b167f33a91d6f648bdf96596776afdb6377ac434c1c293ccb04"},
	} {
		if d := Extract(unhex(t, x[0]), unhex(t, x[1])); hex.EncodeToString(d[:]) != x[2] {
			t.Errorf("%s: %x", x[0], d)
		}
	}
	for _, n := range []int{0, 1, 63, 64, 65, 100} {
		for _, m := range []int{0, 1, 64, 100} {
			salt, secret := drawn(17, n), drawn(18, m)
			if Extract(salt, secret) != theLibrarys(salt, secret) || Extract(salt, secret) != Mac(salt, secret) {
				t.Error(n, m)
			}
		}
	}
}

func TestKnownExpansions(t *testing.T) {
	for _, x := range [][3]string{
		{"077709362c2e32df0ddc3f0dc47bba6390b6c73bb50f9c3122ec844ad7c2b3e5", "f0f1f2f3f4f5f6f7f8f9",
			"3cb25f25faacd57a90434f64d0362f2a2d2d0a90cf1a5a4c5db02d56ecc4c5bf34007208d5b887185865"},
		{"19ef24a32c717b167f33a91d6f648bdf96596776afdb6377ac434c1c293ccb04", "",
			"8da4e775a563c18f715f802a063c5a31b8a11f5c5ee1879ec3454e5f3c738d2d9d201395faa4b61a96c8"},
	} {
		want := unhex(t, x[2])
		if got := spread(t, api.Digest(unhex(t, x[0])), unhex(t, x[1]), len(want)); !bytes.Equal(got, want) {
			t.Errorf("%x", got)
		}
	}
}

func TestExpansionsOfManyLengths(t *testing.T) {
	key := drawnDigest(19)
	for _, m := range []int{0, 1, 31, 64, 200} {
		info := drawn(20, m)
		for _, n := range []int{0, 1, 31, 32, 33, 63, 64, 65, 96, 100, 4000, 8127, 8128, 8129, 8159, 8160} {
			want, err := hkdf.Expand(sha256.New, key[:], string(info), n)
			if err != nil {
				t.Fatal(err)
			}
			if got := spread(t, key, info, n); !bytes.Equal(got, want) {
				t.Error(m, n)
			}
		}
	}
}

func TestPiecesOfAnExpansion(t *testing.T) {
	key, info := drawnDigest(21), []byte("info")
	all := spread(t, key, info, 8160)
	var last []byte
	for i := range 255 {
		d := Mac(key[:], slices.Concat(last, info, []byte{byte(i + 1)}))
		last = d[:]
		if !bytes.Equal(all[32*i:32*i+32], last) {
			t.Fatal("T", i+1)
		}
	}
}

func TestExpansionsOutsideTheRange(t *testing.T) {
	for _, x := range []struct {
		n int
		e api.Errno
	}{
		{-1, api.ErrArg}, {-32, api.ErrArg}, {-8161, api.ErrArg}, {math.MinInt, api.ErrArg},
		{8161, api.ErrBig}, {8192, api.ErrBig}, {1 << 32, api.ErrBig}, {math.MaxInt, api.ErrBig},
	} {
		if b, e := Expand(drawnDigest(22), []byte("info"), x.n); b != nil || e != x.e {
			t.Error(x.n, len(b), e)
		}
		if b, e := Expand(api.Digest{}, nil, x.n); b != nil || e != x.e {
			t.Error(x.n, len(b), e)
		}
	}
}

// P3.4

func TestAChildIsTheMacOfItsPurposeAndNumber(t *testing.T) {
	seed := drawnDigest(23)
	for _, purpose := range []string{"a", "salt", "chain", " ", "\x00", "\xff\xfe", "é", "a\nb", strings.Repeat("p", 127), strings.Repeat("p", 128), strings.Repeat("p", 254), strings.Repeat("p", 255), strings.Repeat("é", 127)} {
		for _, i := range []int{0, 1, 255, 256, 1 << 31, 1 << 32, 0x0102030405060708, math.MaxInt} {
			message := append([]byte{byte(len(purpose))}, purpose...)
			message = binary.BigEndian.AppendUint64(message, uint64(i))
			if child(t, seed, purpose, i) != theLibrarys(seed[:], message) {
				t.Errorf("%q %d", purpose, i)
			}
		}
	}
}

func TestAKnownChild(t *testing.T) {
	message := []byte{4, 's', 'a', 'l', 't', 0, 0, 0, 0, 0, 0, 0, 7}
	if child(t, api.Digest{}, "salt", 7) != theLibrarys(make([]byte, 32), message) {
		t.Error("salt 7")
	}
}

func TestChildrenThatMayNotBe(t *testing.T) {
	seed := drawnDigest(24)
	for _, x := range []struct {
		purpose string
		i       int
	}{
		{"", 0}, {"", 1}, {"", math.MaxInt}, {"", -1}, {"", math.MinInt},
		{strings.Repeat("p", 256), 0}, {strings.Repeat("p", 257), 5}, {strings.Repeat("é", 128), 0}, {strings.Repeat("p", 511), 0}, {strings.Repeat("p", 512), 0}, {strings.Repeat("p", 256), -1},
		{"p", -1}, {"p", -256}, {"p", math.MinInt}, {strings.Repeat("p", 255), -1},
	} {
		if d, e := Child(seed, x.purpose, x.i); d != (api.Digest{}) || e != api.ErrArg {
			t.Errorf("%d bytes, %d: %x %v", len(x.purpose), x.i, d, e)
		}
	}
}

func TestChildrenAreUnlike(t *testing.T) {
	met := map[api.Digest]int{}
	for _, seed := range []api.Digest{{}, drawnDigest(25), drawnDigest(26)} {
		for _, purpose := range []string{"a", "b", "aa", "a\x00", "\x00a", "\x00"} {
			for _, i := range []int{0, 1, 256, 1 << 56, math.MaxInt} {
				met[child(t, seed, purpose, i)]++
			}
		}
	}
	if len(met) != 3*6*5 {
		t.Error(len(met))
	}
}

// P3.5

func TestSame(t *testing.T) {
	for _, d := range []api.Digest{{}, drawnDigest(27), api.Digest(bytes.Repeat([]byte{255}, 32))} {
		if !Same(d, d) {
			t.Errorf("%x is not the same", d)
		}
		for bit := range 256 {
			other := d
			other[bit/8] ^= 1 << (bit % 8)
			if Same(d, other) || Same(other, d) {
				t.Errorf("%x: the bit %d is not looked at", d, bit)
			}
		}
	}
}

func TestDifferencesDoNotMakeUpForOneAnother(t *testing.T) {
	a := drawnDigest(28)
	for i := range a {
		for j := range i {
			b := a
			b[i] ^= 0x80
			b[j] ^= 0x80
			if Same(a, b) || Same(b, a) {
				t.Error(i, j, "the same bit twice")
			}
			b = a
			b[i]++
			b[j]--
			if Same(a, b) || Same(b, a) {
				t.Error(i, j, "one more and one less")
			}
			b = a
			b[i], b[j] = b[j], b[i]
			if Same(a, b) != (a[i] == a[j]) {
				t.Error(i, j, "exchanged")
			}
		}
	}
}

// P3.6

func TestHoweverAMessageIsCut(t *testing.T) {
	key, b := drawn(29, 32), drawn(30, 140)
	want := theLibrarys(key, b)
	for i := range len(b) + 1 {
		for j := i; j <= len(b); j += 7 {
			if grown(t, key, b[:i], b[i:j], b[j:]).Sum() != want {
				t.Fatal(i, j)
			}
		}
	}
}

func TestAMessageInDrawnPieces(t *testing.T) {
	for seed := range uint64(200) {
		r := rand.New(rand.NewPCG(seed, 1))
		key, b := drawn(seed, r.IntN(150)), drawn(seed+1000, r.IntN(1000))
		k := New(key)
		for at := 0; at < len(b); {
			n := min(r.IntN(150), len(b)-at)
			put(t, k, b[at:at+n])
			at += n
			if r.IntN(3) == 0 && k.Sum() != Mac(key, b[:at]) {
				t.Fatal(seed, at)
			}
		}
		if k.Sum() != Mac(key, b) {
			t.Fatal(seed)
		}
	}
}

func TestFewerExpandedBytesAreTheBeginningOfMore(t *testing.T) {
	for _, info := range [][]byte{nil, []byte("info"), drawn(31, 100)} {
		key := drawnDigest(32)
		most := spread(t, key, info, 8160)
		for n := range 200 {
			if !bytes.Equal(spread(t, key, info, n), most[:n]) {
				t.Fatal(n)
			}
		}
		for _, n := range []int{1000, 8127, 8128, 8129, 8159} {
			if !bytes.Equal(spread(t, key, info, n), most[:n]) {
				t.Error(n)
			}
		}
	}
}

// Rule 1

func TestKeyedDigestsThatNoCallMade(t *testing.T) {
	for _, k := range []*Keyed{nil, {}, {State: &hash.State{}}} {
		for _, b := range [][]byte{nil, {}, {1}, drawn(33, 200)} {
			if e := k.Write(b); e != api.ErrNil {
				t.Error(e)
			}
			if d := k.Sum(); d != (api.Digest{}) {
				t.Errorf("%x", d)
			}
		}
	}
	var plain Keyed
	plain.Write([]byte{1})
	plain.Sum()
	if plain != (Keyed{}) {
		t.Error("it has changed")
	}
}

// Rule 4

// inMidst tells bytes with room ahead and behind that must stay as it is.
func inMidst(b []byte) (whole, part []byte) {
	whole = slices.Concat([]byte{7, 7, 7}, b, bytes.Repeat([]byte{9}, 100))
	return whole, whole[3 : 3+len(b)]
}

func TestWhatIsHandedInStaysAsItIs(t *testing.T) {
	for n := range 140 {
		whole, part := inMidst(drawn(34, n))
		was := slices.Clone(whole)
		Mac(part, part)
		k := New(part)
		put(t, k, part)
		k.Sum()
		Extract(part, part)
		spread(t, drawnDigest(35), part, 100)
		if !bytes.Equal(whole, was) {
			t.Fatal(n)
		}
	}
}

func TestWhatIsBehindTheLengthIsNotRead(t *testing.T) {
	for _, n := range []int{0, 1, 63, 64, 65} {
		b := drawn(36, n)
		_, part := inMidst(b)
		if Mac(part, part) != theLibrarys(b, b) || Extract(part, part) != theLibrarys(b, b) || grown(t, part, part).Sum() != theLibrarys(b, b) {
			t.Error(n, "the spare room is in the digest")
		}
		if !bytes.Equal(spread(t, drawnDigest(37), part, 70), spread(t, drawnDigest(37), b, 70)) {
			t.Error(n, "the spare room is expanded")
		}
	}
}

func TestWhatWasHandedInIsNotKept(t *testing.T) {
	for _, n := range []int{1, 63, 64, 65, 100} {
		key, b := drawn(38, n), drawn(39, n)
		k := New(key)
		clear(key)
		put(t, k, b)
		clear(b)
		if k.Sum() != theLibrarys(drawn(38, n), drawn(39, n)) {
			t.Error(n, "it hangs on what was handed in")
		}
		put(t, k, []byte("more"))
		if k.Sum() != theLibrarys(drawn(38, n), append(drawn(39, n), "more"...)) {
			t.Error(n, "it goes on from what was handed in")
		}
	}
}

func TestWhatIsHandedOutIsNew(t *testing.T) {
	key := drawnDigest(40)
	for _, n := range []int{1, 31, 32, 33, 100, 8160} {
		info := drawn(41, n)
		one, two := spread(t, key, info, n), spread(t, key, info, n)
		want := slices.Clone(two)
		clear(one[:cap(one)])
		if !bytes.Equal(two, want) || !bytes.Equal(info, drawn(41, n)) || !bytes.Equal(spread(t, key, info, n), want) {
			t.Error(n, "what was handed out is shared")
		}
	}
}

func TestNoMoreThanWasAskedForIsHandedOut(t *testing.T) {
	for n := range 70 {
		b := spread(t, drawnDigest(42), nil, n)
		for _, c := range b[len(b):cap(b)] {
			if c != 0 {
				t.Fatal(n, "more bytes of the expansion stand in the spare room")
			}
		}
	}
}
