package octet

import (
	"bytes"
	"encoding/base64"
	"encoding/binary"
	"encoding/hex"
	"math"
	"slices"
	"strings"
	"testing"

	"coppice/api"
)

// kind is one of the things that are put and read, seen alike: v is its number, or the byte that a digest is full of.
type kind struct {
	name string
	size int
	put  func(b []byte, v uint64) []byte
	read func(b []byte, at int) (v any, next int, e api.Errno)
	zero any
}

func kinds() []kind {
	return []kind{
		{"16", 2, func(b []byte, v uint64) []byte { return PutUint16(b, uint16(v)) }, func(b []byte, at int) (any, int, api.Errno) { return told(Uint16(b, at)) }, uint16(0)},
		{"32", 4, func(b []byte, v uint64) []byte { return PutUint32(b, uint32(v)) }, func(b []byte, at int) (any, int, api.Errno) { return told(Uint32(b, at)) }, uint32(0)},
		{"64", 8, PutUint64, func(b []byte, at int) (any, int, api.Errno) { return told(Uint64(b, at)) }, uint64(0)},
		{"digest", 32, func(b []byte, v uint64) []byte { return PutDigest(b, fullOf(byte(v))) }, func(b []byte, at int) (any, int, api.Errno) { return told(Digest(b, at)) }, api.Digest{}},
	}
}

func told[T any](v T, next int, e api.Errno) (any, int, api.Errno) { return v, next, e }

func fullOf(c byte) (d api.Digest) {
	for i := range d {
		d[i] = c
	}
	return d
}

func rising() (d api.Digest) {
	for i := range d {
		d[i] = byte(i + 1)
	}
	return d
}

// P1.1

func TestNumbersHaveTheHighestByteFirst(t *testing.T) {
	for _, x := range []struct{ got, want []byte }{
		{PutUint16(nil, 0x0102), []byte{1, 2}},
		{PutUint16(nil, math.MaxUint16), []byte{255, 255}},
		{PutUint16([]byte{7, 8}, 1), []byte{7, 8, 0, 1}},
		{PutUint32(nil, 0x01020304), []byte{1, 2, 3, 4}},
		{PutUint32([]byte{9}, 258), []byte{9, 0, 0, 1, 2}},
		{PutUint32(nil, math.MaxUint32), []byte{255, 255, 255, 255}},
		{PutUint64(nil, 0x0102030405060708), []byte{1, 2, 3, 4, 5, 6, 7, 8}},
		{PutUint64([]byte{9}, 1<<63), []byte{9, 128, 0, 0, 0, 0, 0, 0, 0}},
		{PutUint64([]byte{}, math.MaxUint64), []byte{255, 255, 255, 255, 255, 255, 255, 255}},
	} {
		if !bytes.Equal(x.got, x.want) {
			t.Errorf("% x, not % x", x.got, x.want)
		}
	}
}

func TestNumbersAreReadAtAnyPlace(t *testing.T) {
	b := []byte{250, 1, 2, 3, 4, 5, 6, 7, 8, 9}
	for at := range len(b) - 1 {
		if v, next, e := Uint16(b, at); v != binary.BigEndian.Uint16(b[at:]) || next != at+2 || e != api.OK {
			t.Error(at, v, next, int(e))
		}
	}
	for at := range len(b) - 3 {
		if v, next, e := Uint32(b, at); v != binary.BigEndian.Uint32(b[at:]) || next != at+4 || e != api.OK {
			t.Error(at, v, next, int(e))
		}
	}
	for at := range len(b) - 7 {
		if v, next, e := Uint64(b, at); v != binary.BigEndian.Uint64(b[at:]) || next != at+8 || e != api.OK {
			t.Error(at, v, next, int(e))
		}
	}
}

// P1.1 and P1.2

func TestPlacesOutsideAreNoArguments(t *testing.T) {
	for _, k := range kinds() {
		for _, size := range []int{0, 1, k.size, 40} {
			b := bytes.Repeat([]byte{255}, size)
			for _, at := range []int{math.MinInt, -k.size, -1, size + 1, size + k.size, math.MaxInt} {
				if v, next, e := k.read(b, at); v != k.zero || next != 0 || e != api.ErrArg {
					t.Error(k.name, size, at, v, next, int(e))
				}
			}
		}
		if v, next, e := k.read(nil, 1); v != k.zero || next != 0 || e != api.ErrArg {
			t.Error(k.name, v, next, int(e))
		}
	}
}

func TestTooFewBytesAreShort(t *testing.T) {
	for _, k := range kinds() {
		if v, next, e := k.read(nil, 0); v != k.zero || next != 0 || e != api.ErrShort {
			t.Error(k.name, v, next, int(e))
		}
		for left := range k.size {
			b := bytes.Repeat([]byte{255}, 5+left)
			if v, next, e := k.read(b, 5); v != k.zero || next != 0 || e != api.ErrShort {
				t.Error(k.name, left, v, next, int(e))
			}
		}
		b := bytes.Repeat([]byte{255}, 5+k.size)
		if v, next, e := k.read(b, 5); v == k.zero || next != 5+k.size || e != api.OK {
			t.Error(k.name, v, next, int(e))
		}
	}
}

func TestSpareRoomIsNotRead(t *testing.T) {
	for _, k := range kinds() {
		b := make([]byte, k.size-1, 64)
		if v, next, e := k.read(b, 0); v != k.zero || next != 0 || e != api.ErrShort {
			t.Error(k.name, v, next, int(e))
		}
		if _, _, e := k.read(b, k.size); e != api.ErrArg {
			t.Error(k.name, int(e))
		}
	}
}

// P1.2

func TestDigestsAreTheir32Bytes(t *testing.T) {
	d := rising()
	if b := PutDigest(nil, d); !bytes.Equal(b, d[:]) {
		t.Errorf("% x", b)
	}
	b := PutDigest([]byte{200, 201}, d)
	if len(b) != 34 || b[0] != 200 || b[1] != 201 || !bytes.Equal(b[2:], d[:]) {
		t.Errorf("% x", b)
	}
	if got, next, e := Digest(append(b, 9), 2); got != d || next != 34 || e != api.OK {
		t.Error(got, next, int(e))
	}
	if got, next, e := Digest(b, 1); got[0] != 201 || !bytes.Equal(got[1:], d[:31]) || next != 33 || e != api.OK {
		t.Error(got, next, int(e))
	}
}

// P1.3

func TestHexOfEachByte(t *testing.T) {
	all := make([]byte, 256)
	for i := range all {
		all[i] = byte(i)
		if s := Hex(all[i : i+1]); s != hex.EncodeToString(all[i:i+1]) {
			t.Error(i, s)
		}
	}
	if Hex(all) != hex.EncodeToString(all) || Hex(nil) != "" || Hex([]byte{10, 255}) != "0aff" {
		t.Error("Hex")
	}
	if b, at, e := Unhex(Hex(all)); !bytes.Equal(b, all) || at != 0 || e != api.OK {
		t.Error(b, at, int(e))
	}
	if b, at, e := Unhex(""); len(b) != 0 || at != 0 || e != api.OK {
		t.Error(b, at, int(e))
	}
}

func TestUnhexTellsWhereThereIsNoDigit(t *testing.T) {
	for _, x := range []struct {
		s  string
		at int
	}{
		{"0AFF", 1}, {"0af", 3}, {"0", 1}, {"00000", 5}, {"x", 0}, {"0x", 1}, {"00 ", 2}, {"00g0", 2}, {"gg", 0},
		{"abcdeF", 5}, {"ab\n", 2}, {"\x00\x00", 0}, {"0é", 1}, {"0\xff", 1}, {"00=", 2},
	} {
		if b, at, e := Unhex(x.s); b != nil || at != x.at || e != api.ErrText {
			t.Errorf("%q: %v %d %d", x.s, b, at, int(e))
		}
	}
}

func TestUnhexTakesJustItsDigits(t *testing.T) {
	for i := range 256 {
		s := "0" + string([]byte{byte(i)})
		b, at, e := Unhex(s)
		v := strings.IndexByte("0123456789abcdef", byte(i))
		if v >= 0 && (len(b) != 1 || int(b[0]) != v || at != 0 || e != api.OK) {
			t.Errorf("%q: %v %d %d", s, b, at, int(e))
		}
		if v < 0 && (b != nil || at != 1 || e != api.ErrText) {
			t.Errorf("%q: %v %d %d", s, b, at, int(e))
		}
	}
}

// P1.4

func TestBase64OfEachLength(t *testing.T) {
	b := make([]byte, 0, 300)
	for i := range 300 {
		if s := Base64(b); s != base64.StdEncoding.EncodeToString(b) {
			t.Errorf("% x: %s", b, s)
		}
		if got, at, e := Unbase64(Base64(b)); !bytes.Equal(got, b) || at != 0 || e != api.OK {
			t.Error(got, at, int(e))
		}
		b = append(b, byte(i*151+i/256))
	}
}

func TestBase64OfEachEnd(t *testing.T) {
	for i := range 1 << 16 {
		two := []byte{byte(i >> 8), byte(i)}
		for _, b := range [][]byte{two, two[1:], {0xfb, two[0], two[1]}, {1, 2, 3, two[1]}} {
			if s := Base64(b); s != base64.StdEncoding.EncodeToString(b) {
				t.Fatalf("% x: %s", b, s)
			}
		}
	}
	if Base64([]byte("a")) != "YQ==" || Base64([]byte("ab")) != "YWI=" || Base64(nil) != "" || Base64([]byte{0xfb, 0xff, 0xbf}) != "+/+/" {
		t.Error("Base64")
	}
}

func TestUnbase64TellsWhereTheTextIsWrong(t *testing.T) {
	for _, x := range []struct {
		s  string
		at int
	}{
		// what is no digit comes first
		{"Y=Q=", 1}, {"====", 0}, {"===", 0}, {"Y===", 1}, {"YQ===", 2}, {"YWJj===", 4}, {"=YQ=", 0}, {"YQ==YQ==", 2}, {"YW=j", 2},
		{"YW-j", 2}, {"YWJ_", 3}, {"YW\nj", 2}, {"YWJj\n", 4}, {" YWJj", 0}, {"YWJj YWJj", 4}, {"é", 0}, {"YW\xff", 2}, {"YR= =", 2}, {"\x00", 0},
		// then the length
		{"=", 1}, {"==", 2}, {"Y", 1}, {"YQ", 2}, {"YWI", 3}, {"Y=", 2}, {"Y==", 3}, {"YQ=", 3}, {"YR=", 3}, {"YWJ", 3}, {"YWJj=", 5}, {"YWJj==", 6}, {"YWJjY", 5}, {"YWI==", 5},
		// then the bits that belong to no byte
		{"YR==", 1}, {"YW==", 1}, {"Yf==", 1}, {"YY==", 1}, {"Y/==", 1}, {"YWJ=", 2}, {"YWK=", 2}, {"YWL=", 2}, {"YWJjYR==", 5}, {"YWJjYWJ=", 6},
	} {
		if b, at, e := Unbase64(x.s); b != nil || at != x.at || e != api.ErrText {
			t.Errorf("%q: %v %d %d", x.s, b, at, int(e))
		}
	}
	for _, s := range []string{"", "YQ==", "YWI=", "YWJj", "YWJjYQ==", "AA==", "AAA=", "////", "+/+/"} {
		want, _ := base64.StdEncoding.DecodeString(s)
		if b, at, e := Unbase64(s); !bytes.Equal(b, want) || at != 0 || e != api.OK {
			t.Errorf("%q: %v %d %d", s, b, at, int(e))
		}
	}
}

func TestUnbase64TakesJustItsDigits(t *testing.T) {
	const digits = "ABCDEFGHIJKLMNOPQRSTUVWXYZabcdefghijklmnopqrstuvwxyz0123456789+/"
	for i := range 256 {
		for place := range 4 {
			s := []byte("AAAA")
			s[place] = byte(i)
			b, at, e := Unbase64(string(s))
			v := strings.IndexByte(digits, byte(i))
			switch {
			case v >= 0:
				bits := v << (18 - 6*place)
				if want := []byte{byte(bits >> 16), byte(bits >> 8), byte(bits)}; !bytes.Equal(b, want) || at != 0 || e != api.OK {
					t.Errorf("%q: %v %d %d", s, b, at, int(e))
				}
			case i == '=' && place == 3:
				if !bytes.Equal(b, []byte{0, 0}) || at != 0 || e != api.OK {
					t.Errorf("%q: %v %d %d", s, b, at, int(e))
				}
			default:
				if b != nil || at != place || e != api.ErrText {
					t.Errorf("%q: %v %d %d", s, b, at, int(e))
				}
			}
		}
	}
}

// P1.5

func TestLines(t *testing.T) {
	for _, x := range []struct {
		s    string
		want []string
	}{
		{"", nil}, {"\n", []string{""}}, {"\n\n", []string{"", ""}}, {"a", []string{"a"}}, {"a\n", []string{"a"}}, {"a\n\n", []string{"a", ""}},
		{"\na", []string{"", "a"}}, {"a\n\nb", []string{"a", "", "b"}}, {"a\nb\n", []string{"a", "b"}}, {"\n\nb", []string{"", "", "b"}},
		{"a\r\nb\r", []string{"a\r", "b\r"}}, {" \n ", []string{" ", " "}}, {"é\n\xff\n\x00", []string{"é", "\xff", "\x00"}}, {"a\u2028b\u0085c", []string{"a\u2028b\u0085c"}},
	} {
		lines := Lines(x.s)
		for range 2 {
			if got := gathered(t, lines); !slices.Equal(got, x.want) {
				t.Errorf("%q: %q", x.s, got)
			}
		}
	}
}

func gathered(t *testing.T, lines func(func(int, string) bool)) (got []string) {
	for n, s := range lines {
		if n != len(got) {
			t.Error("number", n, "at", len(got))
		}
		got = append(got, s)
	}
	return got
}

func TestLinesMayBeLeftAnywhere(t *testing.T) {
	for _, text := range []string{"a\nb\nc", "a\nb\nc\n"} {
		lines := Lines(text)
		for stop := range 3 {
			seen := 0
			lines(func(n int, s string) bool {
				if n != seen || s != []string{"a", "b", "c"}[n] {
					t.Error(n, s)
				}
				seen++
				return n < stop
			})
			if seen != stop+1 {
				t.Error(text, stop, seen)
			}
		}
		if got := gathered(t, lines); len(got) != 3 {
			t.Error(text, got)
		}
	}
}

// P1.6

func TestWhatIsPutIsReadAgain(t *testing.T) {
	for bit := range 64 {
		for _, v := range []uint64{1 << bit, 1<<bit - 1, ^uint64(1 << bit), 0x0123456789abcdef >> bit} {
			if got, next, e := Uint16(PutUint16([]byte{5}, uint16(v)), 1); got != uint16(v) || next != 3 || e != api.OK {
				t.Error(v, got, next, int(e))
			}
			if got, next, e := Uint32(PutUint32([]byte{5}, uint32(v)), 1); got != uint32(v) || next != 5 || e != api.OK {
				t.Error(v, got, next, int(e))
			}
			if got, next, e := Uint64(PutUint64([]byte{5}, v), 1); got != v || next != 9 || e != api.OK {
				t.Error(v, got, next, int(e))
			}
			d := rising()
			d[bit%32] = byte(v)
			if got, next, e := Digest(PutDigest([]byte{5}, d), 1); got != d || next != 33 || e != api.OK {
				t.Error(got, next, int(e))
			}
		}
	}
}

func TestPutsFollowOneAnother(t *testing.T) {
	b := PutDigest(PutUint16(PutUint64(PutUint32(nil, 7), 8), 9), rising())
	v32, at, _ := Uint32(b, 0)
	v64, at, _ := Uint64(b, at)
	v16, at, _ := Uint16(b, at)
	d, at, e := Digest(b, at)
	if v32 != 7 || v64 != 8 || v16 != 9 || d != rising() || at != 46 || at != len(b) || e != api.OK {
		t.Error(v32, v64, v16, d, at, int(e))
	}
}

// texts calls f with each text of up to most letters.
func texts(letters string, most int, f func(s string)) {
	var on func(s string)
	on = func(s string) {
		f(s)
		for i := range len(letters) {
			if len(s) < most {
				on(s + letters[i:i+1])
			}
		}
	}
	on("")
}

func TestATextThatIsReadIsTheOneOfItsBytes(t *testing.T) {
	read := 0
	texts("09afAG =", 4, func(s string) {
		b, at, e := Unhex(s)
		want, err := hex.DecodeString(s)
		if accepted := err == nil && strings.ToLower(s) == s; accepted != (e == api.OK) {
			t.Errorf("%q: %d", s, int(e))
		}
		if e == api.OK && (Hex(b) != s || !bytes.Equal(b, want) || at != 0) {
			t.Errorf("%q: % x %d", s, b, at)
		}
		if e == api.OK {
			read++
		}
	})
	if read != 1+16+256 {
		t.Error(read)
	}
	read = 0
	strict := base64.StdEncoding.Strict()
	texts("AQR/+-= ", 5, func(s string) {
		for _, s := range []string{s, "YWJj" + s} {
			b, at, e := Unbase64(s)
			want, err := strict.DecodeString(s)
			if (err == nil) != (e == api.OK) || e != api.OK && (e != api.ErrText || b != nil || at < 0 || at > len(s)) {
				t.Errorf("%q: %v %d %d", s, b, at, int(e))
			}
			if e == api.OK && (Base64(b) != s || !bytes.Equal(b, want) || at != 0) {
				t.Errorf("%q: % x %d", s, b, at)
			}
			if e == api.OK {
				read++
			}
		}
	})
	if read == 0 {
		t.Error("nothing was read")
	}
}

// Rule 4 of DOC.md

// roomy tells n bytes with spare room behind them, and the whole memory.
func roomy(n int) (b, whole []byte) {
	whole = make([]byte, n+64)
	for i := range whole {
		whole[i] = byte(i + 100)
	}
	return whole[:n], whole
}

func TestWhatIsHandedInIsNotChanged(t *testing.T) {
	for n := range 70 {
		b, whole := roomy(n)
		before := bytes.Clone(whole)
		for _, k := range kinds() {
			k.put(b, 3)
			k.read(b, n/2)
			k.read(b, n)
		}
		Hex(b)
		Base64(b)
		if !bytes.Equal(whole, before) {
			t.Error("changed behind", n)
		}
	}
}

func TestWhatIsHandedOutIsNewMemory(t *testing.T) {
	for _, k := range kinds() {
		for _, n := range []int{0, 1, 5, 40} {
			b, whole := roomy(n)
			before := bytes.Clone(whole)
			one, two := k.put(b, 3), k.put(b, 3)
			want := bytes.Clone(two)
			spoil(one)
			if !bytes.Equal(whole, before) {
				t.Error(k.name, "shares memory with what was handed in", n)
			}
			if !bytes.Equal(two, want) {
				t.Error(k.name, "shares memory with another answer", n)
			}
			spoil(whole)
			if !bytes.Equal(two, want) {
				t.Error(k.name, "keeps what was handed in", n)
			}
		}
	}
	for _, read := range []func() []byte{
		func() []byte { b, _, _ := Unhex("0a0b"); return b },
		func() []byte { b, _, _ := Unbase64("YWJjYQ=="); return b },
	} {
		one, two := read(), read()
		want := bytes.Clone(two)
		spoil(one)
		if !bytes.Equal(two, want) || !bytes.Equal(read(), want) {
			t.Errorf("% x, not % x", two, want)
		}
	}
}

func TestSpareRoomIsNotHandedOut(t *testing.T) {
	for _, k := range kinds() {
		b, _ := roomy(3)
		out := k.put(b, 0)
		for _, c := range out[len(out):cap(out)] {
			if c != 0 {
				t.Error(k.name, "hands out", c)
			}
		}
	}
}

// spoil writes over a list's memory, its spare room too.
func spoil(b []byte) {
	b = b[:cap(b)]
	for i := range b {
		b[i] ^= 255
	}
}
