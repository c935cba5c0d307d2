// Package octet is layer 1: see shared/doc/01-octet.md.
package octet

import (
	"iter"
	"strings"

	"coppice/api"
)

// The digits stand in the order of their values, so that one text serves for telling and for reading.
const (
	hexDigits    = "0123456789abcdef"
	base64Digits = "ABCDEFGHIJKLMNOPQRSTUVWXYZabcdefghijklmnopqrstuvwxyz0123456789+/"
)

// PutUint16 lays two bytes behind others, the highest first.
func PutUint16(b []byte, v uint16) []byte { return putNumber(b, uint64(v), 2) }

// Uint16 reads two bytes at a place, and tells the place behind them.
func Uint16(b []byte, at int) (v uint16, next int, e api.Errno) {
	n, next, e := number(b, at, 2)
	return uint16(n), next, e
}

// PutUint32 lays four bytes.
func PutUint32(b []byte, v uint32) []byte { return putNumber(b, uint64(v), 4) }

// Uint32 reads four bytes.
func Uint32(b []byte, at int) (v uint32, next int, e api.Errno) {
	n, next, e := number(b, at, 4)
	return uint32(n), next, e
}

// PutUint64 lays eight bytes.
func PutUint64(b []byte, v uint64) []byte { return putNumber(b, v, 8) }

// Uint64 reads eight bytes.
func Uint64(b []byte, at int) (v uint64, next int, e api.Errno) { return number(b, at, 8) }

// PutDigest lays a digest.
func PutDigest(b []byte, d api.Digest) []byte {
	out := widened(b, len(d))
	copy(out[len(b):], d[:])
	return out
}

// Digest reads a digest.
func Digest(b []byte, at int) (d api.Digest, next int, e api.Errno) {
	if e := room(b, at, len(d)); e != api.OK {
		return api.Digest{}, 0, e
	}
	next = at + copy(d[:], b[at:])
	return d, next, api.OK
}

// Hex tells bytes in digits to the base 16.
func Hex(b []byte) string {
	out := make([]byte, 2*len(b))
	for i := range len(b) {
		out[2*i] = hexDigits[b[i]>>4]
		out[2*i+1] = hexDigits[b[i]&15]
	}
	return string(out)
}

// Unhex reads them; at: where they are none.
func Unhex(s string) (b []byte, at int, e api.Errno) {
	value := valueAmong(hexDigits)
	if at, found := firstNoDigit(s, value); found {
		return nil, at, api.ErrText
	}
	if len(s)%2 != 0 {
		return nil, len(s), api.ErrText
	}
	b = make([]byte, len(s)/2)
	for i := range len(b) {
		b[i] = byte(value(s[2*i])<<4 | value(s[2*i+1]))
	}
	return b, 0, api.OK
}

// Base64 tells bytes in digits to the base 64.
func Base64(b []byte) string {
	groups := (len(b) + 2) / 3
	out := make([]byte, 0, 4*groups)
	for i := range groups {
		digits := group(b[3*i : min(3*i+3, len(b))])
		out = append(out, digits[:]...)
	}
	return string(out)
}

// Unbase64 reads them; at: where they are none.
func Unbase64(s string) (b []byte, at int, e api.Errno) {
	value := valueAmong(base64Digits)
	digits := withoutFilling(s)
	if at, found := firstNoDigit(digits, value); found {
		return nil, at, api.ErrText
	}
	if len(s)%4 != 0 {
		return nil, len(s), api.ErrText
	}
	b, left := packed(digits, value)
	if left != 0 {
		return nil, len(digits) - 1, api.ErrText
	}
	return b, 0, api.OK
}

// Lines goes through the lines of a text, without their ends.
func Lines(s string) iter.Seq2[int, string] {
	return func(yield func(int, string) bool) {
		begin, n := 0, 0
		for i := range len(s) {
			if s[i] != '\n' {
				continue
			}
			if !yield(n, s[begin:i]) {
				return
			}
			begin, n = i+1, n+1
		}
		if begin < len(s) {
			yield(n, s[begin:])
		}
	}
}

// widened copies, since appending could write into the spare room of what was handed in.
func widened(b []byte, n int) []byte {
	out := make([]byte, len(b)+n)
	copy(out, b)
	return out
}

func putNumber(b []byte, v uint64, width int) []byte {
	out := widened(b, width)
	for i := range width {
		out[len(b)+i] = byte(v >> (8 * (width - 1 - i)))
	}
	return out
}

func number(b []byte, at, width int) (v uint64, next int, e api.Errno) {
	if e := room(b, at, width); e != api.OK {
		return 0, 0, e
	}
	for i := range width {
		v = v<<8 | uint64(b[at+i])
	}
	return v, at + width, api.OK
}

// room subtracts, since at + n could leave the range of an int.
func room(b []byte, at, n int) api.Errno {
	if at < 0 || at > len(b) {
		return api.ErrArg
	}
	if len(b)-at < n {
		return api.ErrShort
	}
	return api.OK
}

// valueAmong tells a digit's value by its place among the digits; below 0: it is none.
func valueAmong(digits string) func(c byte) int {
	return func(c byte) int { return strings.IndexByte(digits, c) }
}

func firstNoDigit(s string, value func(c byte) int) (at int, found bool) {
	for i := range len(s) {
		if value(s[i]) < 0 {
			return i, true
		}
	}
	return 0, false
}

// group tells one to three bytes as four digits, the last ones = where there is no byte for them.
func group(b []byte) [4]byte {
	bits := uint32(0)
	for i := range len(b) {
		bits |= uint32(b[i]) << (16 - 8*i)
	}
	out := [4]byte{'=', '=', '=', '='}
	for i := range len(b) + 1 {
		out[i] = base64Digits[bits>>(18-6*i)&63]
	}
	return out
}

// withoutFilling takes two = away at most, so that a third one is met as what is no digit.
func withoutFilling(s string) string {
	return strings.TrimSuffix(strings.TrimSuffix(s, "="), "=")
}

// packed tells the bytes of digits of six bits, and the bits at the end that fill no byte.
func packed(digits string, value func(c byte) int) (b []byte, left uint32) {
	b = make([]byte, 0, len(digits)*3/4)
	bits, held := uint32(0), 0
	for i := range len(digits) {
		bits = bits<<6 | uint32(value(digits[i]))
		held += 6
		if held >= 8 {
			held -= 8
			b = append(b, byte(bits>>held))
			bits &= 1<<held - 1
		}
	}
	return b, bits
}
