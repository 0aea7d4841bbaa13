// Package octet is layer 1: numbers and texts as bytes, the highest byte first, and bytes and numbers as digits.
package octet

import (
	"math/bits"
	"strconv"

	"ciborium/api"
)

// The digits to the base 16: just these, so that there is one form.
var hexDigits = [16]byte{'0', '1', '2', '3', '4', '5', '6', '7', '8', '9', 'a', 'b', 'c', 'd', 'e', 'f'}

// Put16 is b and behind it the two bytes of n.
func Put16(b []byte, n uint16) []byte { return put(b, n) }

// Put32 is b and behind it the four bytes of n.
func Put32(b []byte, n uint32) []byte { return put(b, n) }

// Put64 is b and behind it the eight bytes of n.
func Put64(b []byte, n uint64) []byte { return put(b, n) }

func put[N uint16 | uint32 | uint64](b []byte, n N) []byte {
	width := bits.Len64(uint64(^N(0))) / 8
	// Not append: it would write into the room behind b, which is the caller's.
	out := make([]byte, len(b)+width)
	copy(out, b)
	for i := len(out) - 1; i >= len(b); i-- {
		out[i] = byte(n)
		n >>= 8
	}
	return out
}

// PutText is b and behind it how many bytes s has, in two bytes, and these.
func PutText(b []byte, s string) (out []byte, e api.Errno) {
	if len(s) > api.MaxText {
		return nil, api.ErrLong
	}
	return append(Put16(b, uint16(len(s))), s...), api.OK
}

// Hex is b as digits to the base 16, two a byte.
func Hex(b []byte) string {
	out := make([]byte, 0, 2*len(b))
	for _, c := range b {
		out = append(out, hexDigits[c>>4], hexDigits[c&15])
	}
	return string(out)
}

// Unhex is the bytes of which s is the Hex.
func Unhex(s string) (b []byte, e api.Errno) {
	// All digits are looked at first: a wrong one goes ahead of a missing one.
	for i := range len(s) {
		if _, ok := hexValue(s[i]); !ok {
			return nil, api.ErrDigit
		}
	}
	if len(s)%2 != 0 {
		return nil, api.ErrShort
	}
	b = make([]byte, len(s)/2)
	for i := range b {
		high, _ := hexValue(s[2*i])
		low, _ := hexValue(s[2*i+1])
		b[i] = high<<4 | low
	}
	return b, api.OK
}

func hexValue(c byte) (v byte, ok bool) {
	switch {
	case '0' <= c && c <= '9':
		return c - '0', true
	case 'a' <= c && c <= 'f':
		return c - 'a' + 10, true
	}
	return 0, false
}

// Equal says whether a and b are the same bytes.
func Equal(a, b []byte) bool {
	if len(a) != len(b) {
		return false
	}
	// Tags and secrets are compared by this: how long it takes must not tell how many bytes were right.
	var differ byte
	for i := range a {
		differ |= a[i] ^ b[i]
	}
	return differ == 0
}

// Digits is n to the base 10.
func Digits(n uint64) string { return strconv.FormatUint(n, 10) }

// Number is the number of which s is the Digits.
func Number(s string) (n uint64, e api.Errno) {
	if s == "" {
		return 0, api.ErrShort
	}
	if s[0] == '0' && len(s) > 1 {
		return 0, api.ErrDigit
	}
	for i := range len(s) {
		if s[i] < '0' || s[i] > '9' {
			return 0, api.ErrDigit
		}
	}
	n, err := strconv.ParseUint(s, 10, 64)
	if err != nil {
		// Of digits alone nothing can be wrong but that they are too many.
		return 0, api.ErrWide
	}
	return n, api.OK
}
