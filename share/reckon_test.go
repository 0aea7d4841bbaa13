package share

import (
	"bytes"
	"math/rand"
	"testing"

	"ciborium/api"
)

// product is that of two elements, reckoned without package field: shift, add, and take the divisor away.
func product(a, b byte) byte {
	whole := 0
	for i := range 8 {
		whole ^= int(a) << i * (int(b) >> i & 1)
	}
	for i := 14; i >= 8; i-- {
		whole ^= 0x11b << (i - 8) * (whole >> i & 1)
	}
	return byte(whole)
}

// inverse is found by trying.
func inverse(a byte) byte {
	for b := range 256 {
		if product(a, byte(b)) == 1 {
			return byte(b)
		}
	}
	return 0
}

// valueAt is the value at x of the polynomial with the coefficients c, summand by summand.
func valueAt(c []byte, x byte) byte {
	sum, power := byte(0), byte(1)
	for _, a := range c {
		sum ^= product(a, power)
		power = product(power, x)
	}
	return sum
}

// through is the coefficients of the only polynomial with as many of them as there are points that goes through these (0 may be a place here): Newton's way, point by point.
func through(xs, ys []byte) []byte {
	c, zeros := make([]byte, len(xs)), []byte{1}
	for i, x := range xs {
		// zeros is 0 at all places so far; so much of it mends the value at x.
		part := product(ys[i]^valueAt(c, x), inverse(valueAt(zeros, x)))
		next := append([]byte{0}, zeros...)
		for k, z := range zeros {
			c[k] ^= product(part, z)
			next[k] ^= product(x, z)
		}
		zeros = next
	}
	return c
}

// wantShares is what P4.1 says of a Split that has no error.
func wantShares(secret []byte, n, k int, draws []byte) []api.Share {
	var l []api.Share
	for x := 1; x <= n; x++ {
		s := api.Share{X: byte(x)}
		for j, b := range secret {
			c := append([]byte{b}, draws[(k-1)*j:(k-1)*j+k-1]...)
			s.Y = append(s.Y, valueAt(c, s.X))
		}
		l = append(l, s)
	}
	return l
}

func sameShare(a, b api.Share) bool { return a.X == b.X && bytes.Equal(a.Y, b.Y) }

func sameShares(a, b []api.Share) bool {
	for i := range min(len(a), len(b)) {
		if !sameShare(a[i], b[i]) {
			return false
		}
	}
	return len(a) == len(b)
}

// cloned is l in memory of its own.
func cloned(l []api.Share) []api.Share {
	var out []api.Share
	for _, s := range l {
		out = append(out, api.Share{X: s.X, Y: bytes.Clone(s.Y)})
	}
	return out
}

func someBytes(r *rand.Rand, n int) []byte {
	b := make([]byte, n)
	r.Read(b)
	return b
}

// somePlaces are n unlike elements, none of them 0, in no order.
func somePlaces(r *rand.Rand, n int) []byte {
	var xs []byte
	for _, i := range r.Perm(255)[:n] {
		xs = append(xs, byte(i+1))
	}
	return xs
}

// someOf are n of l, in no order.
func someOf(r *rand.Rand, l []api.Share, n int) []api.Share {
	var out []api.Share
	for _, i := range r.Perm(len(l))[:n] {
		out = append(out, l[i])
	}
	return out
}

// split is a Split that must have no error.
func split(t *testing.T, secret []byte, n, k int, draws []byte) []api.Share {
	t.Helper()
	l, e := Split(secret, n, k, draws)
	if e != api.OK || len(l) != n {
		t.Fatalf("P4.1: Split of %d bytes, %d, %d, %d draws: %d shares, %d", len(secret), n, k, len(draws), len(l), e)
	}
	return l
}

// spoil writes over all of b, the room behind its end too.
func spoil(b []byte) {
	b = b[:cap(b)]
	for i := range b {
		b[i] = 0xee
	}
}

// roomy is b with room behind its end, and all of it, with that room.
func roomy(b []byte) (part, whole []byte) {
	whole = append(bytes.Clone(b), bytes.Repeat([]byte{0x99}, 40)...)
	return whole[:len(b)], whole
}
