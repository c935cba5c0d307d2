package frame

import (
	"bytes"
	"encoding/binary"
	"fmt"
	"hash/crc32"
	"math"
	"slices"
	"testing"

	"coppice/api"
)

// some tells n bytes, others for each kind.
func some(kind byte, n int) []byte {
	b := make([]byte, n)
	v := uint32(kind)*2654435761 + 12345
	for i := range b {
		v = v*1664525 + 1013904223
		b[i] = byte(v >> 24)
	}
	return b
}

// byWords tells what the register gives that begins as it is told, bit by bit, by the words of the chapter.
func byWords(register uint32, b []byte) uint32 {
	for _, c := range b {
		for bit := range 8 {
			x := register&1 ^ uint32(c>>bit)&1
			register >>= 1
			if x == 1 {
				register ^= 0xedb88320
			}
		}
	}
	return register ^ 0xffffffff
}

// framed tells the bytes of a frame of data, also of more than a frame may have.
func framed(data []byte) []byte { return stated(uint32(len(data)), data) }

// stated tells a frame that says a length, right or wrong, with the sum that belongs to it.
func stated(length uint32, data []byte) []byte {
	b := binary.BigEndian.AppendUint32(nil, length)
	sum := crc32.ChecksumIEEE(slices.Concat(b, data))
	return append(binary.BigEndian.AppendUint32(b, sum), data...)
}

func put(t *testing.T, b, data []byte) []byte {
	t.Helper()
	out, e := Put(b, data)
	if e != api.OK {
		t.Fatal("put", len(b), len(data), e)
	}
	return out
}

// answer is what Read answers.
type answer struct {
	data string
	next int
	e    api.Errno
}

func (a answer) String() string {
	return fmt.Sprintf("%d bytes, %d, %d", len(a.data), a.next, int(a.e))
}

func read(b []byte, at int) answer {
	data, next, e := Read(b, at)
	return answer{string(data), next, e}
}

// readByWords answers as the chapter says, in its order, by another library's sum and numbers.
func readByWords(b []byte, at int) answer {
	switch {
	case at < 0 || at > len(b):
		return answer{e: api.ErrArg}
	case len(b)-at < 8:
		return answer{e: api.ErrTorn}
	}
	left := b[at:]
	length := binary.BigEndian.Uint32(left)
	switch {
	case length > 1048576:
		return answer{e: api.ErrBig}
	case uint64(len(left)-8) < uint64(length):
		return answer{e: api.ErrTorn}
	}
	data := left[8 : 8+length]
	if crc32.ChecksumIEEE(slices.Concat(left[:4], data)) != binary.BigEndian.Uint32(left[4:]) {
		return answer{e: api.ErrSum}
	}
	return answer{data: string(data), next: at + 8 + int(length)}
}

// told is what All tells of one frame.
type told struct {
	next int
	data string
}

func (x told) String() string { return fmt.Sprintf("%d: %q", x.next, x.data) }

func gathered(b []byte) (l []told) {
	for next, data := range All(b) {
		l = append(l, told{next, string(data)})
	}
	return l
}

// allByWords tells what All and Whole must tell.
func allByWords(b []byte) (l []told, end int, e api.Errno) {
	for end < len(b) {
		a := readByWords(b, end)
		if a.e != api.OK {
			return l, end, a.e
		}
		l, end = append(l, told{a.next, a.data}), a.next
	}
	return l, end, api.OK
}

// holdAll fails unless All and Whole tell of some bytes what they must.
func holdAll(t *testing.T, b []byte) {
	t.Helper()
	want, end, e := allByWords(b)
	if got := gathered(b); !slices.Equal(got, want) {
		t.Fatalf("% x: %d frames, not %d", b[:min(len(b), 40)], len(got), len(want))
	}
	if at, got := Whole(b); at != end || got != e {
		t.Fatalf("% x: %d %d, not %d %d", b[:min(len(b), 40)], at, int(got), end, int(e))
	}
}

// lists tells the data of frames that are put one behind the other: empty ones, short and longer ones.
func lists() [][][]byte {
	out := [][][]byte{
		nil,
		{nil},
		{nil, nil, nil},
		{[]byte("a")},
		{[]byte("a"), []byte("bc")},
		{[]byte("a"), nil, []byte("bc"), nil},
		{make([]byte, 8), make([]byte, 16), make([]byte, 1)},
		{framed([]byte("inner")), framed(nil), framed(framed([]byte("inmost")))},
		{some(1, 255), some(2, 256), some(3, 257)},
	}
	var many [][]byte
	for n := range 20 {
		many = append(many, some(byte(n), n*n%23))
	}
	return append(out, many)
}

func joined(t *testing.T, l [][]byte) (b []byte) {
	t.Helper()
	for _, data := range l {
		b = put(t, b, data)
	}
	return b
}

// P11.1

func TestSumsThatAreKnown(t *testing.T) {
	for _, x := range []struct {
		s   string
		sum uint32
	}{
		{"", 0}, {"a", 0xe8b7be43}, {"abc", 0x352441c2}, {"123456789", 0xcbf43926},
		{"The quick brown fox jumps over the lazy dog", 0x414fa339},
		{"\x00", 0xd202ef8d}, {"\x00\x00\x00\x00", 0x2144df1c}, {"\xff\xff\xff\xff", 0xffffffff},
	} {
		if got := Sum([]byte(x.s)); got != x.sum {
			t.Errorf("%q: %08x, not %08x", x.s, got, x.sum)
		}
	}
	if Sum(nil) != 0 {
		t.Error("the sum of nothing")
	}
}

func TestSumsByTheChaptersWords(t *testing.T) {
	for i := range 1 << 16 {
		two := []byte{byte(i >> 8), byte(i)}
		for _, b := range [][]byte{two, two[1:]} {
			if got := Sum(b); got != byWords(0xffffffff, b) || got != crc32.ChecksumIEEE(b) {
				t.Fatalf("% x: %08x", b, got)
			}
		}
	}
	for n := range 600 {
		b := some(byte(n), n)
		if got := Sum(b); got != byWords(0xffffffff, b) || got != crc32.ChecksumIEEE(b) {
			t.Fatalf("%d bytes: %08x", n, got)
		}
	}
	great := some(7, 3*api.MaxFrame+5)
	if got := Sum(great); got != crc32.ChecksumIEEE(great) {
		t.Errorf("%08x", got)
	}
}

// someSums tells numbers from which a register may begin.
func someSums() []uint32 {
	out := []uint32{0, 1, 0xffffffff, 0xfffffffe, 0xedb88320, 0x12477cdf, 0xcbf43926, 0x2144df1c, 0xdeadbeef}
	for bit := range 32 {
		out = append(out, 1<<bit, ^uint32(1<<bit))
	}
	return out
}

func TestExtendBeginsWithAnySum(t *testing.T) {
	for _, sum := range someSums() {
		if got := Extend(sum, nil); got != sum {
			t.Errorf("%08x with nothing behind: %08x", sum, got)
		}
		if got := Extend(sum, []byte{}); got != sum {
			t.Errorf("%08x with nothing behind: %08x", sum, got)
		}
		for c := range 256 {
			b := []byte{byte(c)}
			if got := Extend(sum, b); got != byWords(^sum, b) || got != crc32.Update(sum, crc32.IEEETable, b) {
				t.Fatalf("%08x, % x: %08x", sum, b, got)
			}
		}
		for n := range 40 {
			b := some(byte(n), n)
			if got := Extend(sum, b); got != byWords(^sum, b) || got != crc32.Update(sum, crc32.IEEETable, b) {
				t.Fatalf("%08x, %d bytes: %08x", sum, n, got)
			}
		}
	}
}

func TestASumGoesOnAnywhere(t *testing.T) {
	if got := Extend(Sum([]byte("1234")), []byte("56789")); got != 0xcbf43926 {
		t.Errorf("%08x", got)
	}
	b := some(3, 90)
	for i := range len(b) + 1 {
		for j := i; j <= len(b); j++ {
			if got := Extend(Extend(Sum(b[:i]), b[i:j]), b[j:]); got != Sum(b) {
				t.Fatalf("parted at %d and %d: %08x", i, j, got)
			}
		}
		if Extend(0, b[:i]) != Sum(b[:i]) {
			t.Fatal("from nothing on", i)
		}
	}
}

// P11.2

func TestAFrameStandsBehindTheBytes(t *testing.T) {
	want := []byte{0, 0, 0, 1, 0, 0, 0, 0, 'a'}
	binary.BigEndian.PutUint32(want[4:], byWords(0xffffffff, []byte{0, 0, 0, 1, 'a'}))
	if got := put(t, nil, []byte("a")); !bytes.Equal(got, want) {
		t.Errorf("% x, not % x", got, want)
	}
	for _, n := range []int{0, 1, 2, 3, 4, 7, 8, 9, 100, 255, 256, 257, 65535, 65536, 65537} {
		data := some(byte(n), n)
		for _, ahead := range [][]byte{nil, {}, {9}, some(1, 5), some(2, 8), some(3, 1000), framed([]byte("x"))} {
			if got := put(t, ahead, data); !bytes.Equal(got, slices.Concat(ahead, framed(data))) {
				t.Errorf("%d ahead, %d data", len(ahead), n)
			}
		}
	}
	if got := put(t, nil, nil); !bytes.Equal(got, []byte{0, 0, 0, 0, 0x21, 0x44, 0xdf, 0x1c}) {
		t.Errorf("% x", got)
	}
	if got := put(t, []byte{}, []byte{}); !bytes.Equal(got, framed(nil)) {
		t.Errorf("% x", got)
	}
}

func TestTheGreatestFrame(t *testing.T) {
	data := some(4, api.MaxFrame+2)
	for _, ahead := range [][]byte{nil, {1, 2, 3}} {
		for _, n := range []int{api.MaxFrame - 1, api.MaxFrame} {
			got := put(t, ahead, data[:n])
			if !bytes.Equal(got, slices.Concat(ahead, framed(data[:n]))) {
				t.Error(len(ahead), n)
			}
			if a := read(got, len(ahead)); a != (answer{string(data[:n]), len(ahead) + 8 + n, api.OK}) {
				t.Error(n, a)
			}
		}
		for _, n := range []int{api.MaxFrame + 1, api.MaxFrame + 2} {
			if got, e := Put(ahead, data[:n]); len(got) != 0 || e != api.ErrBig {
				t.Error(len(ahead), n, len(got), int(e))
			}
		}
	}
	ahead := some(5, 2*api.MaxFrame)
	if got := put(t, ahead, []byte("a")); !bytes.Equal(got, slices.Concat(ahead, framed([]byte("a")))) {
		t.Error("many bytes ahead")
	}
}

func TestCost(t *testing.T) {
	for _, n := range []int{0, 1, 2, 7, 8, 255, 256, 65535, 65536, api.MaxFrame - 8, api.MaxFrame - 1, api.MaxFrame} {
		if v, e := Cost(n); v != 8+n || e != api.OK {
			t.Error(n, v, int(e))
		}
		if v, _ := Cost(n); v != len(put(t, nil, make([]byte, n))) {
			t.Error(n, v)
		}
	}
	for _, n := range []int{-1, -2, -8, -9, -api.MaxFrame, -1 << 32, math.MinInt, math.MinInt + 1} {
		if v, e := Cost(n); v != 0 || e != api.ErrArg {
			t.Error(n, v, int(e))
		}
	}
	for _, n := range []int{api.MaxFrame + 1, api.MaxFrame + 8, 1 << 31, 1 << 32, 1<<32 + 1, math.MaxInt - 8, math.MaxInt - 7, math.MaxInt} {
		if v, e := Cost(n); v != 0 || e != api.ErrBig {
			t.Error(n, v, int(e))
		}
	}
}

// P11.3

func TestFramesAreReadAtAnyPlace(t *testing.T) {
	for n := range 70 {
		data := some(byte(n), n)
		for _, ahead := range []int{0, 1, 3, 8, 20} {
			for _, behind := range []int{0, 1, 7, 8, 30} {
				b := slices.Concat(some(1, ahead), framed(data), some(2, behind))
				if a := read(b, ahead); a != (answer{string(data), ahead + 8 + n, api.OK}) {
					t.Fatal(n, ahead, behind, a)
				}
			}
		}
	}
}

func TestPlacesOutside(t *testing.T) {
	for _, b := range [][]byte{nil, {}, {1}, framed(nil), framed([]byte("a")), some(1, 7), bytes.Repeat([]byte{255}, 100)} {
		for _, at := range []int{-1, -2, -8, -len(b) - 1, math.MinInt, math.MinInt + 1, math.MinInt + 8, len(b) + 1, len(b) + 2, len(b) + 8, 1 << 32, math.MaxInt - 8, math.MaxInt - 7, math.MaxInt} {
			if a := read(b, at); a != (answer{e: api.ErrArg}) {
				t.Error(len(b), at, a)
			}
		}
		if a := read(b, len(b)); a != (answer{e: api.ErrTorn}) {
			t.Error(len(b), "at its end", a)
		}
	}
}

func TestFewerThanEightBytesAreTorn(t *testing.T) {
	for _, c := range []byte{0, 1, 255} {
		for left := range 8 {
			for _, at := range []int{0, 1, 9} {
				if a := read(bytes.Repeat([]byte{c}, at+left), at); a != (answer{e: api.ErrTorn}) {
					t.Error(c, left, at, a)
				}
			}
		}
	}
}

func TestLengthsAboveTheGreatest(t *testing.T) {
	for _, length := range []uint32{api.MaxFrame + 1, api.MaxFrame + 2, 1<<21 - 1, 1 << 21, 1<<24 + 1, 1<<31 - 1, 1 << 31, 1<<31 + 1, math.MaxUint32 - 7, math.MaxUint32} {
		for _, n := range []int{0, 1, 50} {
			if a := read(stated(length, some(1, n)), 0); a != (answer{e: api.ErrBig}) {
				t.Error(length, n, a)
			}
		}
	}
	if a := read([]byte{255, 255, 255, 255, 0, 0, 0, 0}, 0); a != (answer{e: api.ErrBig}) {
		t.Error(a)
	}
	// All of it is there, and the sum is right.
	if a := read(framed(some(2, api.MaxFrame+1)), 0); a != (answer{e: api.ErrBig}) {
		t.Error(a)
	}
	if a := read(framed(some(2, api.MaxFrame)), 0); a.e != api.OK || a.next != api.MaxFrame+8 {
		t.Error(a)
	}
}

func TestFewerBytesThanTheLengthAreTorn(t *testing.T) {
	for n := 1; n < 40; n++ {
		b := framed(some(byte(n), n))
		for left := range n {
			if a := read(b[:8+left], 0); a != (answer{e: api.ErrTorn}) {
				t.Error(n, left, a)
			}
			// The sum is right of what is there: the length is looked at first.
			if a := read(stated(uint32(n), b[8:8+left]), 0); a != (answer{e: api.ErrTorn}) {
				t.Error(n, left, a)
			}
		}
	}
	great := framed(some(3, api.MaxFrame))
	if a := read(great[:len(great)-1], 0); a != (answer{e: api.ErrTorn}) {
		t.Error(a)
	}
	if a := read(great[:8], 0); a != (answer{e: api.ErrTorn}) {
		t.Error(a)
	}
}

func TestAnotherSum(t *testing.T) {
	for _, n := range []int{1, 2, 5, 300} {
		b := framed(some(9, n))
		right := binary.BigEndian.Uint32(b[4:])
		data := crc32.ChecksumIEEE(b[8:])
		for _, sum := range []uint32{0, 1, 0xffffffff, ^right, right + 1, right - 1, data, byWords(0, append(b[:4:4], b[8:]...)), crc32.Update(data, crc32.IEEETable, b[:4])} {
			if sum == right {
				t.Fatal(n, sum)
			}
			x := bytes.Clone(b)
			binary.BigEndian.PutUint32(x[4:], sum)
			if a := read(x, 0); a != (answer{e: api.ErrSum}) {
				t.Errorf("%d data, %08x for %08x: %v", n, sum, right, a)
			}
		}
		binary.LittleEndian.PutUint32(b[4:], right)
		if a := read(b, 0); a != (answer{e: api.ErrSum}) {
			t.Error(n, a)
		}
	}
	if a := read(make([]byte, 8), 0); a != (answer{e: api.ErrSum}) {
		t.Error("eight noughts", a)
	}
}

func TestTheSumIsOfTheLengthToo(t *testing.T) {
	b := framed([]byte("ab\x00"))
	shorter := bytes.Clone(b)
	shorter[3] = 2
	longer := append(bytes.Clone(b), 0)
	longer[3] = 4
	for _, x := range [][]byte{shorter, longer} {
		if a := read(x, 0); a != (answer{e: api.ErrSum}) {
			t.Error(a)
		}
	}
}

func TestReadingByTheChaptersWords(t *testing.T) {
	var all [][]byte
	for _, l := range lists() {
		all = append(all, joined(t, l))
	}
	for _, length := range []uint32{0, 1, 2, 3, 8, 11, 12, api.MaxFrame, api.MaxFrame + 1, math.MaxUint32} {
		for n := range 13 {
			b := stated(length, some(4, n))
			all = append(all, b, append(make([]byte, 4), b...), append(b, b...))
			b = bytes.Clone(b)
			b[7] ^= 1
			all = append(all, b)
		}
	}
	counts := map[api.Errno]int{}
	for _, b := range all {
		for at := -2; at <= len(b)+2; at++ {
			want := readByWords(b, at)
			counts[want.e]++
			if got := read(b, at); got != want {
				t.Fatalf("% x at %d: %v, not %v", b, at, got, want)
			}
		}
	}
	for _, e := range []api.Errno{api.OK, api.ErrArg, api.ErrTorn, api.ErrBig, api.ErrSum} {
		if counts[e] == 0 {
			t.Error("never answered:", e)
		}
	}
}

// P11.4

func TestFramesOneBehindTheOther(t *testing.T) {
	for i, l := range lists() {
		b := joined(t, l)
		var want []told
		end := 0
		for _, data := range l {
			end += 8 + len(data)
			want = append(want, told{end, string(data)})
		}
		if got := gathered(b); !slices.Equal(got, want) {
			t.Error(i, got)
		}
		if at, e := Whole(b); at != len(b) || at != end || e != api.OK {
			t.Error(i, at, int(e))
		}
	}
}

func TestNothingHasNoFrames(t *testing.T) {
	for _, b := range [][]byte{nil, {}} {
		if got := gathered(b); len(got) != 0 {
			t.Error(got)
		}
		if at, e := Whole(b); at != 0 || e != api.OK {
			t.Error(at, int(e))
		}
	}
}

func TestTheFirstErrorEndsIt(t *testing.T) {
	spoiled := framed([]byte("spoiled"))
	spoiled[10] ^= 4
	for _, l := range lists() {
		b := joined(t, l)
		for _, x := range []struct {
			bad []byte
			e   api.Errno
		}{
			{[]byte{0}, api.ErrTorn},
			{make([]byte, 7), api.ErrTorn},
			{make([]byte, 8), api.ErrSum},
			{spoiled, api.ErrSum},
			{framed([]byte("torn"))[:11], api.ErrTorn},
			{stated(math.MaxUint32, nil), api.ErrBig},
			{stated(api.MaxFrame+1, nil), api.ErrBig},
			{stated(api.MaxFrame, nil), api.ErrTorn},
		} {
			whole := slices.Concat(b, x.bad)
			if got := gathered(whole); !slices.Equal(got, gathered(b)) || len(got) != len(l) {
				t.Error(len(b), x.e, got)
			}
			if at, e := Whole(whole); at != len(b) || e != x.e {
				t.Error(len(b), at, int(e), "not", int(x.e))
			}
			holdAll(t, whole)
		}
		for _, bad := range [][]byte{spoiled, make([]byte, 8), stated(math.MaxUint32, nil)} {
			whole := slices.Concat(b, bad, framed([]byte("good")))
			if got := gathered(whole); len(got) != len(l) {
				t.Error("told behind what is no frame", got)
			}
			holdAll(t, whole)
		}
	}
}

func TestWhateverTheBytesAre(t *testing.T) {
	for n := range 400 {
		holdAll(t, some(byte(n), n%60))
		holdAll(t, make([]byte, n%60))
		holdAll(t, bytes.Repeat([]byte{255}, n%60))
	}
	b := joined(t, [][]byte{[]byte("a"), nil, []byte("bcd"), framed(nil)})
	for at := range b {
		for c := range 256 {
			x := bytes.Clone(b)
			x[at] = byte(c)
			holdAll(t, x)
		}
	}
	great := joined(t, [][]byte{some(1, api.MaxFrame), nil, some(2, api.MaxFrame)})
	for _, n := range []int{len(great), len(great) - 1, api.MaxFrame + 16, api.MaxFrame + 15, api.MaxFrame + 8, api.MaxFrame + 7} {
		holdAll(t, great[:n])
	}
}

// P11.5

func TestABeginningHasTheFramesThatLieInItWhole(t *testing.T) {
	for _, l := range lists() {
		b := joined(t, l)
		var ends []int
		for i := range l {
			ends = append(ends, len(joined(t, l[:i+1])))
		}
		for n := range len(b) + 1 {
			var want []told
			last := 0
			for i, end := range ends {
				if end <= n {
					want, last = append(want, told{end, string(l[i])}), end
				}
			}
			if got := gathered(b[:n]); !slices.Equal(got, want) {
				t.Fatal(n, "of", len(b), got)
			}
			wanted := api.OK
			if last < n {
				wanted = api.ErrTorn
			}
			if at, e := Whole(b[:n]); at != last || e != wanted {
				t.Fatal(n, "of", len(b), at, int(e))
			}
		}
	}
}

// P11.6

func TestATurnedByteIsFound(t *testing.T) {
	for _, n := range []int{0, 1, 2, 3, 4, 5, 8, 13, 40, 200} {
		for _, data := range [][]byte{some(byte(n), n), make([]byte, n), bytes.Repeat([]byte{255}, n)} {
			b := put(t, nil, data)
			for at := 4; at < len(b); at++ {
				for turn := 1; turn < 256; turn++ {
					b[at] ^= byte(turn)
					if a := read(b, 0); a != (answer{e: api.ErrSum}) {
						t.Fatalf("%d data, byte %d turned by %02x: %v", n, at, turn, a)
					}
					b[at] ^= byte(turn)
				}
			}
			if a := read(b, 0); a.e != api.OK {
				t.Fatal("not turned", a)
			}
		}
	}
}

func TestATurnedByteOfTheGreatestFrameIsFound(t *testing.T) {
	b := put(t, nil, some(8, api.MaxFrame))
	for i, at := range []int{4, 7, 8, 9, 1000, 65543, api.MaxFrame / 2, api.MaxFrame, api.MaxFrame + 6, api.MaxFrame + 7} {
		turn := byte(i*25 + 1)
		b[at] ^= turn
		if a := read(b, 0); a != (answer{e: api.ErrSum}) {
			t.Error(at, turn, a)
		}
		if got := gathered(b); len(got) != 0 {
			t.Error(at, "told")
		}
		b[at] ^= turn
	}
}

func TestATurnedByteEndsTheFramesThere(t *testing.T) {
	l := [][]byte{[]byte("a"), []byte("bc"), nil, []byte("def")}
	b := joined(t, l)
	begin := 0
	for i, data := range l {
		end := begin + 8 + len(data)
		for at := begin + 4; at < end; at++ {
			x := bytes.Clone(b)
			x[at] ^= 0x40
			if got := gathered(x); len(got) != i || !slices.Equal(got, gathered(b)[:i]) {
				t.Error(at, got)
			}
			if where, e := Whole(x); where != begin || e != api.ErrSum {
				t.Error(at, where, int(e))
			}
		}
		begin = end
	}
}

// Rule 3 of DOC.md

func TestNilIsAsEmpty(t *testing.T) {
	if Sum(nil) != Sum([]byte{}) || Extend(7, nil) != Extend(7, []byte{}) {
		t.Error("sums")
	}
	for _, b := range [][]byte{nil, {}} {
		for _, data := range [][]byte{nil, {}} {
			if got := put(t, b, data); !bytes.Equal(got, framed(nil)) {
				t.Errorf("% x", got)
			}
		}
		if a := read(b, 0); a != (answer{e: api.ErrTorn}) {
			t.Error(a)
		}
	}
}

// Rule 4 of DOC.md

// roomy tells bytes with spare room behind them, and the whole memory: what is behind would make them more.
func roomy(b, behind []byte) (short, whole []byte) {
	whole = slices.Concat(b, behind)
	return whole[:len(b)], whole
}

// spoil writes over a list's memory, its spare room too.
func spoil(b []byte) {
	b = b[:cap(b)]
	for i := range b {
		b[i] ^= 255
	}
}

func TestWhatIsHandedInIsNotChanged(t *testing.T) {
	for _, l := range lists() {
		b, whole := roomy(joined(t, l), some(1, 400))
		data, wholeData := roomy(some(2, 30), some(3, 40))
		was, wasData := bytes.Clone(whole), bytes.Clone(wholeData)
		Sum(b)
		Extend(5, b)
		put(t, b, data)
		put(t, data, b)
		for at := range len(b) + 1 {
			read(b, at)
		}
		gathered(b)
		Whole(b)
		if !bytes.Equal(whole, was) || !bytes.Equal(wholeData, wasData) {
			t.Error(len(b), "changed")
		}
	}
}

func TestWhatIsPutIsNewMemory(t *testing.T) {
	for _, ahead := range []int{0, 1, 9, 100} {
		for _, n := range []int{0, 1, 9, 100} {
			b, whole := roomy(some(1, ahead), some(2, 300))
			data, wholeData := roomy(some(3, n), some(4, 300))
			was, wasData := bytes.Clone(whole), bytes.Clone(wholeData)
			one, two := put(t, b, data), put(t, b, data)
			want := slices.Concat(b, framed(data))
			spoil(one)
			if !bytes.Equal(whole, was) || !bytes.Equal(wholeData, wasData) || !bytes.Equal(two, want) {
				t.Error(ahead, n, "shares memory")
			}
			spoil(whole)
			spoil(wholeData)
			if !bytes.Equal(two, want) {
				t.Error(ahead, n, "keeps what was handed in")
			}
		}
	}
}

func TestWhatIsReadIsNewMemory(t *testing.T) {
	for _, n := range []int{0, 1, 9, 100} {
		data := some(1, n)
		b := slices.Concat(framed(data), some(2, 40))
		was := bytes.Clone(b)
		one, _, _ := Read(b, 0)
		two, _, _ := Read(b, 0)
		spoil(one)
		if !bytes.Equal(b, was) || !bytes.Equal(two, data) {
			t.Error(n, "shares memory")
		}
		spoil(b)
		if !bytes.Equal(two, data) {
			t.Error(n, "keeps what was handed in")
		}
	}
}

func TestWhatIsToldIsNewMemory(t *testing.T) {
	for _, l := range lists() {
		b := joined(t, l)
		was := bytes.Clone(b)
		var kept [][]byte
		for _, data := range All(b) {
			kept = append(kept, data)
		}
		for i, data := range kept {
			spoil(data)
			if !bytes.Equal(b, was) {
				t.Fatal(i, "shares memory with what was handed in")
			}
			for j, other := range kept {
				if j > i && !bytes.Equal(other, l[j]) {
					t.Fatal(i, "shares memory with", j)
				}
			}
			spoil(data)
		}
		spoil(b)
		for i, data := range kept {
			if !bytes.Equal(data, l[i]) {
				t.Fatal(i, "keeps what was handed in")
			}
		}
	}
}

func TestSpareRoomIsNotHandedOut(t *testing.T) {
	empty := func(what string, b []byte) {
		t.Helper()
		for _, c := range b[len(b):cap(b)] {
			if c != 0 {
				t.Error(what, "hands out", c)
				return
			}
		}
	}
	full := bytes.Repeat([]byte{255}, 100)
	for n := range 30 {
		b, _ := roomy(framed(full[:n]), full)
		empty("Put", put(t, b, full[:n]))
		data, _, _ := Read(b, 0)
		empty("Read", data)
		for _, data := range All(append(b[:len(b):len(b)], framed(full)...)) {
			empty("All", data)
		}
	}
}

// Rule 8 of DOC.md

func TestSpareRoomIsNotRead(t *testing.T) {
	b := framed([]byte("abcd"))
	for n := range len(b) {
		short := b[:n]
		if a := read(short, 0); a != (answer{e: api.ErrTorn}) {
			t.Error(n, a)
		}
		if a := read(short, n+1); a != (answer{e: api.ErrArg}) {
			t.Error(n, a)
		}
		if got := gathered(short); len(got) != 0 {
			t.Error(n, got)
		}
		if got := Sum(short); got != crc32.ChecksumIEEE(bytes.Clone(short)) {
			t.Error(n, got)
		}
	}
	two := append(bytes.Clone(b), b...)
	if got := gathered(two[:len(b)]); len(got) != 1 {
		t.Error(got)
	}
	if at, e := Whole(two[:len(b)]); at != len(b) || e != api.OK {
		t.Error(at, int(e))
	}
}

func TestFramesMayBeLeftAnywhere(t *testing.T) {
	for _, l := range lists() {
		frames := All(joined(t, l))
		for stop := range l {
			seen := 0
			frames(func(next int, data []byte) bool {
				if !bytes.Equal(data, l[seen]) || next != len(joined(t, l[:seen+1])) {
					t.Error(seen, next)
				}
				seen++
				return seen <= stop
			})
			if seen != stop+1 {
				t.Error(stop, seen)
			}
		}
		for range 2 {
			n := 0
			for range frames {
				n++
			}
			if n != len(l) {
				t.Error(n, "not", len(l))
			}
		}
	}
}

func TestRangesWithinOneAnother(t *testing.T) {
	l := [][]byte{[]byte("a"), []byte("bc"), nil, []byte("def")}
	frames := All(joined(t, l))
	outer := 0
	for _, x := range frames {
		inner := 0
		for _, y := range frames {
			if !bytes.Equal(y, l[inner]) {
				t.Error(outer, inner)
			}
			inner++
		}
		if !bytes.Equal(x, l[outer]) || inner != len(l) {
			t.Error(outer, inner)
		}
		outer++
	}
	if outer != len(l) {
		t.Error(outer)
	}
}

func TestWhatIsThereAsTheRangeBeginsIsTold(t *testing.T) {
	l := [][]byte{[]byte("a"), []byte("bc"), []byte("def")}
	b := joined(t, l)
	frames := All(b)
	n := 0
	for _, data := range frames {
		if !bytes.Equal(data, l[n]) {
			t.Error(n, data)
		}
		spoil(data)
		clear(b[9:])
		n++
	}
	if n != len(l) {
		t.Error(n, "frames, while the bytes are changed")
	}
	// Only the first frame is left.
	for range 2 {
		n = 0
		for next, data := range frames {
			if next != 9 || string(data) != "a" {
				t.Error(next, data)
			}
			n++
		}
		if n != 1 {
			t.Error(n, "frames, when the bytes have changed")
		}
	}
	copy(b, joined(t, [][]byte{[]byte("z"), []byte("yx"), []byte("wvu")}))
	var got []string
	for _, data := range frames {
		got = append(got, string(data))
	}
	if !slices.Equal(got, []string{"z", "yx", "wvu"}) {
		t.Error(got)
	}
}
