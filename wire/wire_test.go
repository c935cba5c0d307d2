package wire

import (
	"bytes"
	"crypto/sha256"
	"encoding/base64"
	"encoding/binary"
	"fmt"
	"math"
	"math/rand"
	"slices"
	"strings"
	"testing"

	"coppice/api"
	"coppice/tree"
	"coppice/verify"
)

// edges tells numbers at which something could go wrong: those about the powers of two, MaxSize and the ends of the range.
func edges() []int {
	out := []int{math.MinInt, math.MinInt + 1, -api.MaxSize, -256, -255, -2, -1, 0, math.MaxInt - 1, math.MaxInt}
	for _, level := range []int{0, 1, 2, 8, 16, 31, 32, 33, 47, 48, 49, 56, 62} {
		out = append(out, 1<<level-1, 1<<level, 1<<level+1)
	}
	slices.Sort(out)
	return slices.Compact(out)
}

// greatSizes tells sizes of trees up to MaxSize that no test could build.
func greatSizes() []int {
	return []int{65537, 1 << 32, 1<<32 + 1, 123456789012, 0x5555_5555_5555, api.MaxSize/2 + 1, api.MaxSize - 1, api.MaxSize}
}

// placesIn tells numbers from 0 to n - 1, those at the ends among them.
func placesIn(n int) []int {
	out := []int{0, n - 1, n / 2, n / 3, n - 1 - n/7}
	slices.Sort(out)
	return slices.Compact(out)
}

// someDigests tells n digests, all unlike, others for each kind.
func someDigests(kind byte, n int) []api.Digest {
	l := make([]api.Digest, n)
	for i := range l {
		l[i] = sha256.Sum256(binary.BigEndian.AppendUint32([]byte{kind}, uint32(i)))
	}
	return l
}

// digestCount tells how many digests a proof must have; below 0, if no proof may be of these numbers.
func digestCount(kind, first, size int) int {
	n, e := 0, api.ErrArg
	switch kind {
	case api.Inclusion:
		n, e = verify.Length(first, size)
	case api.Consistency:
		n, e = verify.Steps(first, size)
	}
	if e != api.OK {
		return -1
	}
	return n
}

// made tells a proof of these numbers with the digests that it must have, whatever they show.
func made(kind, first, size int) api.Proof {
	return api.Proof{Kind: kind, First: first, Size: size, Path: someDigests(byte(kind), max(0, digestCount(kind, first, size)))}
}

// fewLeaves tells all proofs of trees of up to n leaves.
func fewLeaves(n int) []api.Proof {
	var out []api.Proof
	for size := 1; size <= n; size++ {
		for i := range size {
			out = append(out, made(api.Inclusion, i, size), made(api.Consistency, i+1, size))
		}
	}
	return out
}

// proofs tells proofs that may be, of small trees and of great ones.
func proofs() []api.Proof {
	out := fewLeaves(20)
	for _, size := range greatSizes() {
		for _, i := range placesIn(size) {
			out = append(out, made(api.Inclusion, i, size), made(api.Consistency, i+1, size))
		}
	}
	return out
}

// wrongProofs tells proofs that may not be.
func wrongProofs() []api.Proof {
	var out []api.Proof
	for _, kind := range edges() {
		if kind != api.Inclusion && kind != api.Consistency {
			out = append(out, api.Proof{Kind: kind, Size: 1}, api.Proof{Kind: kind, First: 1, Size: 1}, api.Proof{Kind: kind, First: 1, Size: 2, Path: someDigests(0, 1)})
		}
	}
	for _, first := range edges() {
		for _, size := range edges() {
			for _, kind := range []int{api.Inclusion, api.Consistency} {
				if digestCount(kind, first, size) < 0 {
					out = append(out, api.Proof{Kind: kind, First: first, Size: size}, api.Proof{Kind: kind, First: first, Size: size, Path: someDigests(0, 1)})
				}
			}
		}
	}
	for _, p := range proofs() {
		for _, n := range []int{0, len(p.Path) - 1, len(p.Path) + 1, api.MaxProof, api.MaxProof + 1, 256 + len(p.Path)} {
			if n >= 0 && n != len(p.Path) {
				out = append(out, api.Proof{Kind: p.Kind, First: p.First, Size: p.Size, Path: someDigests(0, n)})
			}
		}
	}
	return out
}

// bytesByWords tells a proof's bytes by the library, whether it may be or not.
func bytesByWords(p api.Proof) []byte {
	return head(byte(p.Kind), uint64(p.First), uint64(p.Size), byte(len(p.Path)), p.Path...)
}

func head(kind byte, first, size uint64, count byte, path ...api.Digest) []byte {
	b := binary.BigEndian.AppendUint64([]byte{kind}, first)
	b = append(binary.BigEndian.AppendUint64(b, size), count)
	for _, d := range path {
		b = append(b, d[:]...)
	}
	return b
}

// textByWords tells a proof's text by the library.
func textByWords(p api.Proof) string {
	s := fmt.Sprintf("%s %d %d\n", map[int]string{api.Inclusion: "inclusion", api.Consistency: "consistency"}[p.Kind], p.First, p.Size)
	for _, d := range p.Path {
		s += base64.StdEncoding.EncodeToString(d[:]) + "\n"
	}
	return s
}

// digestLines tells n lines of digests.
func digestLines(n int) []string {
	var out []string
	for _, d := range someDigests(7, n) {
		out = append(out, base64.StdEncoding.EncodeToString(d[:]))
	}
	return out
}

func same(p, q api.Proof) bool {
	return p.Kind == q.Kind && p.First == q.First && p.Size == q.Size && slices.Equal(p.Path, q.Path)
}

func isZero(p api.Proof) bool { return same(p, api.Proof{}) }

func encode(t *testing.T, p api.Proof) []byte {
	t.Helper()
	b, e := Encode(p)
	if e != api.OK {
		t.Fatal("encode", p.Kind, p.First, p.Size, len(p.Path), e)
	}
	return b
}

func text(t *testing.T, p api.Proof) string {
	t.Helper()
	s, e := Text(p)
	if e != api.OK {
		t.Fatal("text", p.Kind, p.First, p.Size, len(p.Path), e)
	}
	return s
}

func wantNoBytes(t *testing.T, b []byte, why ...any) {
	t.Helper()
	if p, e := Decode(b); e != api.ErrWire || !isZero(p) {
		t.Errorf("%x: %v %d: %v", b, p, int(e), why)
	}
}

func wantNoText(t *testing.T, s string, line int) {
	t.Helper()
	if p, at, e := Parse(s); at != line || e != api.ErrWire || !isZero(p) {
		t.Errorf("%q: %v %d %d, want the line %d", s, p, at, int(e), line)
	}
}

// changedAt tells the bytes with another one at that place.
func changedAt(b []byte, at int, to byte) []byte {
	out := slices.Clone(b)
	out[at] = to
	return out
}

// P8.1

func TestWhichProofsMayBe(t *testing.T) {
	for _, p := range proofs() {
		if !Valid(p) {
			t.Fatal(p.Kind, p.First, p.Size, len(p.Path))
		}
	}
	for _, p := range wrongProofs() {
		if Valid(p) {
			t.Fatal(p.Kind, p.First, p.Size, len(p.Path))
		}
	}
	if Valid(api.Proof{}) {
		t.Error("the zero value")
	}
}

func TestTheEdgesOfTheNumbers(t *testing.T) {
	for _, first := range edges() {
		for _, size := range edges() {
			inclusion := 0 <= first && first < size && size <= api.MaxSize
			if got := Valid(made(api.Inclusion, first, size)); got != inclusion {
				t.Error("inclusion", first, size, got)
			}
			consistency := 1 <= first && first <= size && size <= api.MaxSize
			if got := Valid(made(api.Consistency, first, size)); got != consistency {
				t.Error("consistency", first, size, got)
			}
		}
	}
}

func TestEncode(t *testing.T) {
	for _, p := range proofs() {
		if got := encode(t, p); !bytes.Equal(got, bytesByWords(p)) {
			t.Fatalf("%d %d %d: %x", p.Kind, p.First, p.Size, got)
		}
	}
}

func TestEncodeByHand(t *testing.T) {
	d := api.Digest{0xaa, 31: 0xbb}
	for _, x := range []struct {
		p    api.Proof
		want string
	}{
		{api.Proof{Kind: api.Inclusion, Size: 1}, "01" + "0000000000000000" + "0000000000000001" + "00"},
		{api.Proof{Kind: api.Inclusion, First: 1, Size: 2, Path: []api.Digest{d}}, "01" + "0000000000000001" + "0000000000000002" + "01" + fmt.Sprintf("%x", d)},
		{api.Proof{Kind: api.Consistency, First: 258, Size: 258}, "02" + "0000000000000102" + "0000000000000102" + "00"},
		{api.Proof{Kind: api.Consistency, First: api.MaxSize / 2, Size: api.MaxSize, Path: []api.Digest{d}}, "02" + "0000800000000000" + "0001000000000000" + "01" + fmt.Sprintf("%x", d)},
	} {
		if got := fmt.Sprintf("%x", encode(t, x.p)); got != x.want {
			t.Error(got, x.want)
		}
	}
}

func TestEncodeOfWhatMayNotBe(t *testing.T) {
	for _, p := range wrongProofs() {
		if b, e := Encode(p); e != api.ErrArg || len(b) != 0 {
			t.Fatal(p.Kind, p.First, p.Size, len(p.Path), b, e)
		}
	}
}

func TestDecode(t *testing.T) {
	for _, p := range proofs() {
		if got, e := Decode(bytesByWords(p)); e != api.OK || !same(got, p) {
			t.Fatal(p.Kind, p.First, p.Size, len(p.Path), got, e)
		}
	}
}

func TestDecodeOfBytesThatEndTooSoonOrTooLate(t *testing.T) {
	for _, p := range fewLeaves(9) {
		b := bytesByWords(p)
		for n := range b {
			wantNoBytes(t, b[:n], "cut", n)
		}
		for _, more := range [][]byte{{0}, {1}, {10}, make([]byte, 31), make([]byte, 32), make([]byte, 33), b} {
			wantNoBytes(t, slices.Concat(b, more), "longer", len(more))
		}
	}
	wantNoBytes(t, nil)
	wantNoBytes(t, []byte{})
}

func TestDecodeOfOtherKinds(t *testing.T) {
	for kind := range 256 {
		if kind != api.Inclusion && kind != api.Consistency {
			wantNoBytes(t, head(byte(kind), 0, 1, 0))
			wantNoBytes(t, head(byte(kind), 1, 1, 0))
			wantNoBytes(t, head(byte(kind), 1, 2, 1, api.Digest{1}))
		}
	}
}

func TestDecodeOfNumbersThatMayNotBe(t *testing.T) {
	few := []uint64{0, 1, 2, 3, api.MaxSize - 1, api.MaxSize, api.MaxSize + 1, 1<<48 + 2, 1 << 56, 1<<63 - 1, 1 << 63, 1<<63 + 1, 1<<64 - 2, 1<<64 - 1}
	for _, first := range few {
		for _, size := range few {
			for _, kind := range []int{api.Inclusion, api.Consistency} {
				may := size <= api.MaxSize && (kind == api.Inclusion && first < size || kind == api.Consistency && 1 <= first && first <= size)
				for count := range 52 {
					b := head(byte(kind), first, size, byte(count), someDigests(3, count)...)
					if may && count == digestCount(kind, int(first), int(size)) {
						if _, e := Decode(b); e != api.OK {
							t.Fatal(kind, first, size, count, e)
						}
						continue
					}
					wantNoBytes(t, b)
				}
			}
		}
	}
}

func TestDecodeOfAnotherNumberOfDigests(t *testing.T) {
	for _, p := range []api.Proof{made(api.Inclusion, 0, 1), made(api.Inclusion, 2, 5), made(api.Consistency, 3, 5), made(api.Consistency, 4, 4), made(api.Inclusion, 0, api.MaxSize), made(api.Consistency, 3, api.MaxSize)} {
		for count := range 256 {
			if count == len(p.Path) {
				continue
			}
			wantNoBytes(t, head(byte(p.Kind), uint64(p.First), uint64(p.Size), byte(count), p.Path...), "the count alone")
			wantNoBytes(t, head(byte(p.Kind), uint64(p.First), uint64(p.Size), byte(count), someDigests(4, count)...), "the count and the digests")
			wantNoBytes(t, head(byte(p.Kind), uint64(p.First), uint64(p.Size), byte(len(p.Path)), someDigests(4, count)...), "the digests alone")
		}
		wantNoBytes(t, head(byte(p.Kind), uint64(p.First), uint64(p.Size), byte(len(p.Path)), someDigests(4, 256+len(p.Path))...))
	}
}

// P8.2

func TestText(t *testing.T) {
	for _, p := range proofs() {
		if got := text(t, p); got != textByWords(p) {
			t.Fatalf("%d %d %d: %q", p.Kind, p.First, p.Size, got)
		}
	}
}

func TestTextByHand(t *testing.T) {
	noughts, ones := api.Digest{}, api.Digest(bytes.Repeat([]byte{255}, 32))
	noughtsLine, onesLine := strings.Repeat("A", 43)+"=\n", strings.Repeat("/", 42)+"8=\n"
	for _, x := range []struct {
		p    api.Proof
		want string
	}{
		{api.Proof{Kind: api.Inclusion, Size: 1}, "inclusion 0 1\n"},
		{api.Proof{Kind: api.Inclusion, First: 10, Size: 11, Path: []api.Digest{noughts, ones}}, "inclusion 10 11\n" + noughtsLine + onesLine},
		{api.Proof{Kind: api.Consistency, First: 100, Size: 100}, "consistency 100 100\n"},
		{api.Proof{Kind: api.Consistency, First: api.MaxSize / 2, Size: api.MaxSize, Path: []api.Digest{ones}}, "consistency 140737488355328 281474976710656\n" + onesLine},
	} {
		if got := text(t, x.p); got != x.want {
			t.Errorf("%q %q", got, x.want)
		}
		if p, at, e := Parse(x.want); at != 0 || e != api.OK || !same(p, x.p) {
			t.Errorf("%q: %v %d %d", x.want, p, at, int(e))
		}
	}
}

func TestTextOfWhatMayNotBe(t *testing.T) {
	for _, p := range wrongProofs() {
		if s, e := Text(p); e != api.ErrArg || s != "" {
			t.Fatal(p.Kind, p.First, p.Size, len(p.Path), s, e)
		}
	}
}

func TestParse(t *testing.T) {
	for _, p := range proofs() {
		if got, at, e := Parse(textByWords(p)); at != 0 || e != api.OK || !same(got, p) {
			t.Fatal(p.Kind, p.First, p.Size, len(p.Path), got, at, e)
		}
	}
}

func TestParseOfFirstLinesThatAreNone(t *testing.T) {
	for _, line := range []string{
		"", " ", "inclusion", "inclusion ", "inclusion 0", "inclusion 0 ", "inclusion  0 1", "inclusion 0  1", " inclusion 0 1", "inclusion 0 1 ", "inclusion 0 1 2", "inclusion 0 1 1",
		"inclusion\t0 1", "inclusion 0\t1", "inclusion 0 1\r", "inclusion 0 1\x00", "inclusion\x00 0 1", "Inclusion 0 1", "INCLUSION 0 1", "inclusio 0 1", "inclusions 0 1", "inclusion0 1", "inclusion 01", "\ufeffinclusion 0 1",
		"1 0 1", "0 1", " 0 1", "consistency", "consistency 1", "consistency  1 1", "Consistency 1 1", "consistenc 1 1", "consistency 1 1 ", "exclusion 0 1",
		"inclusion\u00a00 1", "inclusion 0,1", "inclusion 0-1", "inclusion 1", "consistency 1,1",
	} {
		wantNoText(t, line, 0)
		wantNoText(t, line+"\n", 0)
		wantNoText(t, line+"\n"+digestLines(1)[0]+"\n", 0)
	}
}

func TestParseOfNumbersThatAreNotWrittenSo(t *testing.T) {
	for _, one := range []string{
		"01", "001", "+1", "-1", "--1", "1.0", "1e0", "0x1", "0b1", "0o1", "1_", "_1", "١", "１", "1\u200b", "one", "",
		"18446744073709551617", "4294967297x", "9223372036854775808", "18446744073709551615", "99999999999999999999999999", "-9223372036854775808", "-9223372036854775809", "1" + strings.Repeat("0", 1000), strings.Repeat("0", 1000) + "1",
	} {
		wantNoText(t, "inclusion 0 "+one+"\n", 0)
		wantNoText(t, "inclusion "+one+" 2\n"+digestLines(1)[0]+"\n", 0)
		wantNoText(t, "consistency "+one+" 1\n", 0)
		wantNoText(t, "consistency 1 "+one+"\n", 0)
	}
	for _, nought := range []string{"00", "-0", "+0", "000", "0x0", "0_0", "", "18446744073709551616", "-18446744073709551616"} {
		wantNoText(t, "inclusion "+nought+" 1\n", 0)
	}
	for _, ten := range []string{"1_0", "010", "+10", "0xa", "0b1010", "1 0", "10.", ".10"} {
		wantNoText(t, "consistency 10 "+ten+"\n", 0)
		wantNoText(t, "consistency "+ten+" 10\n", 0)
	}
}

func TestParseOfNumbersOfWhichNoProofMayBe(t *testing.T) {
	words := map[int]string{api.Inclusion: "inclusion", api.Consistency: "consistency"}
	for _, first := range edges() {
		for _, size := range edges() {
			for kind, word := range words {
				line := fmt.Sprintf("%s %d %d\n", word, first, size)
				if n := digestCount(kind, first, size); n > 0 {
					wantNoText(t, line, 1)
				} else if n < 0 {
					wantNoText(t, line, 0)
					wantNoText(t, line+strings.Join(digestLines(3), "\n")+"\n", 0)
				}
			}
		}
	}
}

func TestParseOfTextsThatEndTooSoon(t *testing.T) {
	for _, p := range append(fewLeaves(7), made(api.Inclusion, 0, api.MaxSize), made(api.Consistency, 3, api.MaxSize)) {
		s := textByWords(p)
		for n := range len(s) {
			// The line that is wrong is the one whose byte 10 is the first that is missing.
			wantNoText(t, s[:n], strings.Count(s[:n], "\n"))
		}
	}
}

func TestParseOfMoreBehindTheText(t *testing.T) {
	for _, p := range append(fewLeaves(7), made(api.Inclusion, 0, api.MaxSize), made(api.Consistency, 3, api.MaxSize)) {
		s := textByWords(p)
		for _, more := range []string{"\n", "x", "x\n", " ", "\x00", "\r\n", "\n\n\n", digestLines(1)[0], digestLines(1)[0] + "\n", s} {
			wantNoText(t, s+more, 1+len(p.Path))
		}
	}
}

// wrongDigests tells lines that write no digest.
func wrongDigests() []string {
	good := digestLines(1)[0]
	out := []string{
		"", " ", "=", "====", "x", "A", good[:43], good[:43] + "A", good[:42] + "==", good[:40], good + "=", good + good, good + "AAAA", " " + good, good + " ", good + "\r", "\t" + good, good[:20] + " " + good[20:], good[:20] + "\r" + good[20:],
		"-" + good[1:], "_" + good[1:], "." + good[1:], "=" + good[1:], good[:10] + "\x00" + good[11:], good[:10] + "é" + good[12:], strings.Repeat("A", 42) + "B=", strings.Repeat("/", 43) + "=", strings.Repeat("A", 44), strings.Repeat("=", 44),
		strings.Repeat("00", 32), "inclusion 0 1",
	}
	for _, n := range []int{0, 1, 16, 30, 31, 33, 34, 64, 96} {
		out = append(out, base64.StdEncoding.EncodeToString(make([]byte, n)), base64.RawStdEncoding.EncodeToString(make([]byte, n)))
	}
	return append(out, base64.RawStdEncoding.EncodeToString(make([]byte, 32)), base64.URLEncoding.EncodeToString(bytes.Repeat([]byte{255}, 32)))
}

func TestParseOfLinesThatWriteNoDigest(t *testing.T) {
	for _, p := range []api.Proof{made(api.Inclusion, 1, 2), made(api.Inclusion, 2, 5), made(api.Consistency, 3, 5), made(api.Consistency, 2, 3), made(api.Inclusion, 0, api.MaxSize)} {
		lines := strings.Split(strings.TrimSuffix(textByWords(p), "\n"), "\n")
		for at := 1; at < len(lines); at++ {
			for _, wrong := range wrongDigests() {
				changed := slices.Clone(lines)
				changed[at] = wrong
				wantNoText(t, strings.Join(changed, "\n")+"\n", at)
				wantNoText(t, strings.Join(changed, "\n")+"\nx", at)
				wantNoText(t, strings.Join(changed[:at+1], "\n"), at)
			}
		}
	}
}

func TestParseTellsTheFirstLineThatIsWrong(t *testing.T) {
	l := digestLines(4)
	for _, x := range []struct {
		lines []string
		want  int
	}{
		{[]string{"inclusion 5 5", "x", "y", "z", ""}, 0},
		{[]string{"inclusion 2 5", "x", "y", "z", "more"}, 1},
		{[]string{"inclusion 2 5", l[0], "y", "z", "more"}, 2},
		{[]string{"inclusion 2 5", l[0], l[1], "z", "more"}, 3},
		{[]string{"inclusion 2 5", l[0], l[1], l[2], "more"}, 4},
		{[]string{"inclusion 2 5", l[0], l[1], l[2], "", "more"}, 4},
		{[]string{"inclusion 2 5", l[0], l[1], l[2]}, 3},
		{[]string{"inclusion 2 5", "x", l[1], l[2]}, 1},
		{[]string{"inclusion 2 5", l[0], l[1]}, 2},
		{[]string{"inclusion 2 5", l[0], l[1], ""}, 3},
		{[]string{"inclusion 2 5", "", l[0], l[1], l[2], ""}, 1},
		{[]string{"", "inclusion 2 5", l[0], l[1], l[2], ""}, 0},
		{[]string{"consistency 3 5", l[0], l[1], l[2], ""}, 4},
		{[]string{"consistency 3 5", l[0], l[1], l[2], l[3], l[0], ""}, 5},
		{[]string{"consistency 5 5", l[0], ""}, 1},
		{[]string{"consistency 6 5", l[0], ""}, 0},
		{[]string{"consistency 0 5", ""}, 0},
		{[]string{"consistency 1 2"}, 0},
	} {
		wantNoText(t, strings.Join(x.lines, "\n"), x.want)
	}
}

// P8.3

func TestCheck(t *testing.T) {
	a, b, c := api.Digest{1}, api.Digest{2}, api.Digest{3}
	ab := tree.Node(a, b)
	abc := tree.Node(ab, c)
	bytesOf := func(i, n int, path ...api.Digest) []byte {
		return head(api.Inclusion, uint64(i), uint64(n), byte(len(path)), path...)
	}
	for at, x := range []struct {
		bytes      []byte
		leaf, root api.Digest
		want       api.Errno
	}{
		{bytesOf(0, 1), a, a, api.OK}, {bytesOf(0, 1), a, b, api.ErrRoot}, {bytesOf(0, 1), api.Digest{}, api.Digest{}, api.OK},
		{bytesOf(0, 2, b), a, ab, api.OK}, {bytesOf(1, 2, a), b, ab, api.OK}, {bytesOf(1, 2, b), a, ab, api.ErrRoot}, {bytesOf(0, 2, b), b, ab, api.ErrRoot}, {bytesOf(0, 2, b), ab, a, api.ErrRoot},
		{bytesOf(2, 3, ab), c, abc, api.OK}, {bytesOf(0, 3, b, c), a, abc, api.OK}, {bytesOf(0, 3, c, b), a, abc, api.ErrRoot}, {bytesOf(1, 3, a, c), b, abc, api.OK},
		{bytesOf(0, 2), a, ab, api.ErrWire}, {bytesOf(0, 1, a), a, a, api.ErrWire}, {bytesOf(1, 1), a, a, api.ErrWire}, {bytesOf(0, 0), a, a, api.ErrWire}, {nil, a, a, api.ErrWire}, {nil, api.Digest{}, api.Digest{}, api.ErrWire},
		{append(bytesOf(0, 1), 0), a, a, api.ErrWire}, {bytesOf(0, 1)[:17], a, a, api.ErrWire}, {head(3, 0, 1, 0), a, a, api.ErrWire},
		{head(api.Consistency, 1, 1, 0), a, a, api.ErrArg}, {head(api.Consistency, 1, 2, 1, b), a, ab, api.ErrArg}, {head(api.Consistency, 1, 2, 1, b), b, b, api.ErrArg}, {head(api.Consistency, 1, 2, 0), a, ab, api.ErrWire}, {head(api.Consistency, 0, 1, 0), a, a, api.ErrWire},
	} {
		if e := Check(x.bytes, x.leaf, x.root); e != x.want {
			t.Error(at, e, x.want)
		}
	}
}

func TestCheckTwo(t *testing.T) {
	a, b, c := api.Digest{1}, api.Digest{2}, api.Digest{3}
	ab := tree.Node(a, b)
	abc := tree.Node(ab, c)
	bytesOf := func(m, n int, path ...api.Digest) []byte {
		return head(api.Consistency, uint64(m), uint64(n), byte(len(path)), path...)
	}
	for at, x := range []struct {
		bytes        []byte
		older, newer api.Digest
		want         api.Errno
	}{
		{bytesOf(1, 1), a, a, api.OK}, {bytesOf(1, 1), a, b, api.ErrRoot}, {bytesOf(5, 5), api.Digest{}, api.Digest{}, api.OK},
		{bytesOf(1, 2, b), a, ab, api.OK}, {bytesOf(1, 2, b), ab, a, api.ErrRoot}, {bytesOf(1, 2, a), a, ab, api.ErrRoot}, {bytesOf(1, 2, b), b, ab, api.ErrRoot},
		{bytesOf(2, 3, c), ab, abc, api.OK}, {bytesOf(1, 3, b, c), a, abc, api.OK}, {bytesOf(1, 3, c, b), a, abc, api.ErrRoot}, {bytesOf(2, 3, c), a, abc, api.ErrRoot},
		{bytesOf(1, 2), a, ab, api.ErrWire}, {bytesOf(1, 1, a), a, a, api.ErrWire}, {bytesOf(2, 1), a, a, api.ErrWire}, {bytesOf(0, 1), a, a, api.ErrWire}, {bytesOf(0, 0), a, a, api.ErrWire}, {nil, a, a, api.ErrWire}, {nil, api.Digest{}, api.Digest{}, api.ErrWire},
		{append(bytesOf(1, 1), 0), a, a, api.ErrWire}, {bytesOf(1, 1)[:17], a, a, api.ErrWire}, {head(0, 1, 1, 0), a, a, api.ErrWire},
		{head(api.Inclusion, 0, 1, 0), a, a, api.ErrArg}, {head(api.Inclusion, 0, 2, 1, b), a, ab, api.ErrArg}, {head(api.Inclusion, 0, 2, 1, b), b, a, api.ErrArg}, {head(api.Inclusion, 1, 1, 0), a, a, api.ErrWire},
	} {
		if e := CheckTwo(x.bytes, x.older, x.newer); e != x.want {
			t.Error(at, e, x.want)
		}
	}
}

func TestChecksAnswerAsVerifyDoes(t *testing.T) {
	x, y := api.Digest{1}, api.Digest{2}
	for _, p := range proofs() {
		b := bytesByWords(p)
		if p.Kind == api.Inclusion {
			root, _ := verify.Root(x, p.First, p.Size, p.Path)
			if e := Check(b, x, root); e != api.OK {
				t.Fatal(p.First, p.Size, e)
			}
			if e := Check(b, y, root); e != api.ErrRoot {
				t.Fatal(p.First, p.Size, e)
			}
			if e := CheckTwo(b, x, root); e != api.ErrArg {
				t.Fatal(p.First, p.Size, e)
			}
			continue
		}
		older, newer, _ := verify.Roots(x, p.First, p.Size, p.Path)
		if e := CheckTwo(b, older, newer); e != api.OK {
			t.Fatal(p.First, p.Size, e)
		}
		if e := CheckTwo(b, y, newer); e != api.ErrRoot {
			t.Fatal(p.First, p.Size, e)
		}
		if e := CheckTwo(b, older, y); e != api.ErrRoot {
			t.Fatal(p.First, p.Size, e)
		}
		if e := Check(b, older, newer); e != api.ErrArg {
			t.Fatal(p.First, p.Size, e)
		}
	}
}

// P8.4

func TestThereAndBack(t *testing.T) {
	for _, p := range proofs() {
		if got, e := Decode(encode(t, p)); e != api.OK || !same(got, p) {
			t.Fatal(p.Kind, p.First, p.Size, got, e)
		}
		if got, at, e := Parse(text(t, p)); at != 0 || e != api.OK || !same(got, p) {
			t.Fatal(p.Kind, p.First, p.Size, got, at, e)
		}
	}
}

func TestEveryByteThatIsAnotherIsAnotherProofOrNone(t *testing.T) {
	for _, p := range fewLeaves(5) {
		b := bytesByWords(p)
		for at := range b {
			for to := range 256 {
				if other := changedAt(b, at, byte(to)); other[at] != b[at] {
					wantOneForm(t, p, other)
				}
			}
		}
	}
}

// wantOneForm: bytes that are read are those of the proof that was read, and of no other.
func wantOneForm(t *testing.T, p api.Proof, other []byte) {
	t.Helper()
	got, e := Decode(other)
	if e != api.OK {
		if e != api.ErrWire || !isZero(got) {
			t.Fatalf("%x: %v %d", other, got, int(e))
		}
		return
	}
	if !Valid(got) || same(got, p) || !bytes.Equal(encode(t, got), other) {
		t.Fatalf("%x: %v", other, got)
	}
}

func TestEveryTextByteThatIsAnotherIsAnotherProofOrNone(t *testing.T) {
	for _, p := range append(fewLeaves(5), made(api.Inclusion, 10, 101)) {
		s := textByWords(p)
		for at := range len(s) {
			for to := range 256 {
				if byte(to) != s[at] {
					wantOneText(t, p, s[:at]+string([]byte{byte(to)})+s[at+1:])
				}
			}
			wantOneText(t, p, s[:at]+s[at+1:])
			for _, c := range []string{" ", "\n", "\r", "\t", "0", "1", "+", "-", "=", "A", "\x00"} {
				wantOneText(t, p, s[:at]+c+s[at:])
			}
		}
	}
}

// wantOneText: a text that is read is that of the proof that was read; what is not read has a line that is wrong.
func wantOneText(t *testing.T, p api.Proof, other string) {
	t.Helper()
	got, at, e := Parse(other)
	if e != api.OK {
		if e != api.ErrWire || !isZero(got) || at < 0 || at > strings.Count(other, "\n") {
			t.Fatalf("%q: %v %d %d", other, got, at, int(e))
		}
		return
	}
	if at != 0 || !Valid(got) || text(t, got) != other || same(got, p) && other != textByWords(p) {
		t.Fatalf("%q: %v", other, got)
	}
}

func TestNoFormIsTheBeginningOfAnother(t *testing.T) {
	var allBytes, allTexts []string
	for _, p := range proofs() {
		allBytes = append(allBytes, string(encode(t, p)))
		allTexts = append(allTexts, text(t, p))
	}
	for _, all := range [][]string{allBytes, allTexts} {
		slices.Sort(all)
		// In this order a form stands right ahead of those that it begins.
		for at, s := range all[1:] {
			if s != all[at] && strings.HasPrefix(s, all[at]) {
				t.Fatalf("%q begins %q", all[at], s)
			}
		}
	}
}

func TestBytesByChance(t *testing.T) {
	chance := rand.New(rand.NewSource(8))
	all := proofs()
	for range 20000 {
		b := bytesByWords(all[chance.Intn(len(all))])
		for range 1 + chance.Intn(3) {
			b[chance.Intn(min(len(b), 18+chance.Intn(len(b))))] = byte(chance.Intn(256) >> chance.Intn(8))
		}
		b = b[:len(b)-min(len(b), max(0, chance.Intn(20)-18))]
		got, e := Decode(b)
		if e == api.OK && (!Valid(got) || !bytes.Equal(encode(t, got), b)) || e != api.OK && e != api.ErrWire {
			t.Fatalf("%x: %v %d", b, got, int(e))
		}
	}
}

// P8.5

func TestTheTreesProofs(t *testing.T) {
	l := someDigests(5, 33)
	for n := 1; n <= len(l); n++ {
		newer := tree.Root(l[:n])
		for i := range n {
			path, _ := tree.Inclusion(l, i, n)
			b := encode(t, api.Proof{Kind: api.Inclusion, First: i, Size: n, Path: path})
			if e := Check(b, l[i], newer); e != api.OK {
				t.Fatal(i, n, e)
			}
			older := tree.Root(l[:i+1])
			path, _ = tree.Consistency(l, i+1, n)
			b = encode(t, api.Proof{Kind: api.Consistency, First: i + 1, Size: n, Path: path})
			if e := CheckTwo(b, older, newer); e != api.OK {
				t.Fatal(i+1, n, e)
			}
		}
	}
}

func TestTheTreesProofsUnderOtherRoots(t *testing.T) {
	l := someDigests(6, 17)
	for n := 2; n <= len(l); n++ {
		newer, other := tree.Root(l[:n]), tree.Root(l[:n-1])
		for i := range n - 1 {
			path, _ := tree.Inclusion(l, i, n)
			b := encode(t, api.Proof{Kind: api.Inclusion, First: i, Size: n, Path: path})
			if Check(b, l[i], other) != api.ErrRoot || Check(b, l[i+1], newer) != api.ErrRoot || Check(b, newer, l[i]) != api.ErrRoot {
				t.Fatal(i, n)
			}
			older := tree.Root(l[:i+1])
			path, _ = tree.Consistency(l, i+1, n)
			b = encode(t, api.Proof{Kind: api.Consistency, First: i + 1, Size: n, Path: path})
			if CheckTwo(b, newer, older) != api.ErrRoot || CheckTwo(b, older, other) != api.ErrRoot || CheckTwo(b, tree.Root(l[1:i+2]), newer) != api.ErrRoot {
				t.Fatal(i+1, n)
			}
		}
	}
}

// Rules 3, 4 and 8

func TestNilAndEmptyPathsAreAlike(t *testing.T) {
	for _, p := range []api.Proof{{Kind: api.Inclusion, Size: 1}, {Kind: api.Consistency, First: 3, Size: 3}, {Kind: api.Inclusion, Size: 2}, {Kind: api.Consistency, First: 1, Size: 2}, {}} {
		q := p
		q.Path = []api.Digest{}
		if Valid(p) != Valid(q) {
			t.Error(p.Kind, p.First, p.Size)
		}
		b, e := Encode(p)
		if c, e2 := Encode(q); !bytes.Equal(b, c) || e != e2 {
			t.Error(p.Kind, p.First, p.Size, e, e2)
		}
		s, e := Text(p)
		if z, e2 := Text(q); s != z || e != e2 {
			t.Error(p.Kind, p.First, p.Size, e, e2)
		}
	}
}

func TestWhatIsHandedInStays(t *testing.T) {
	for _, p := range fewLeaves(9) {
		memory := append(slices.Clone(p.Path), someDigests(9, 3)...)
		before := slices.Clone(memory)
		q := p
		q.Path = memory[:len(p.Path)]
		if !bytes.Equal(encode(t, q), bytesByWords(p)) || text(t, q) != textByWords(p) || !slices.Equal(memory, before) {
			t.Fatal(p.Kind, p.First, p.Size)
		}
		room := append(bytesByWords(p), bytes.Repeat([]byte{0xee}, 40)...)
		b, kept := room[:len(room)-40], slices.Clone(room)
		if got, e := Decode(b); e != api.OK || !same(got, p) {
			t.Fatal(p.Kind, p.First, p.Size, got, e)
		}
		Check(b, api.Digest{1}, api.Digest{2})
		CheckTwo(b, api.Digest{1}, api.Digest{2})
		if !bytes.Equal(room, kept) {
			t.Fatal(p.Kind, p.First, p.Size, "the bytes are changed")
		}
		for n := range b {
			wantNoBytes(t, b[:n], "the spare room is read")
		}
	}
}

func TestWhatIsHandedOutIsNew(t *testing.T) {
	for _, p := range []api.Proof{made(api.Inclusion, 2, 5), made(api.Consistency, 3, 5)} {
		b := encode(t, p)
		got, _ := Decode(b)
		for at := range b {
			b[at] = 0
		}
		if !same(got, p) {
			t.Error("Decode keeps the bytes")
		}
		b = encode(t, p)
		for at := range got.Path {
			got.Path[at] = api.Digest{}
		}
		if again, _ := Decode(b); !same(again, p) {
			t.Error("Decode hands out the bytes")
		}
		clear(b[:cap(b)])
		if !bytes.Equal(encode(t, p), bytesByWords(p)) {
			t.Error("Encode hands out what it keeps")
		}
		s := text(t, p)
		one, _, _ := Parse(s)
		clear(one.Path[:cap(one.Path)])
		if two, _, _ := Parse(s); !same(two, p) {
			t.Error("Parse hands out what it keeps")
		}
	}
}
