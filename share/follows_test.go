package share

import (
	"bytes"
	"math/rand"
	"testing"

	"ciborium/api"
)

// TestP4_2Enough: any k shares of a Split, or more, in any order, are combined to the secret (P4.1, P4.2).
func TestP4_2Enough(t *testing.T) {
	r := rand.New(rand.NewSource(47))
	for n := 1; n <= api.MaxShares; n++ {
		for k := 1; k <= n; k++ {
			secret := someBytes(r, r.Intn(6))
			l := split(t, secret, n, k, someBytes(r, len(secret)*(k-1)))
			for m := k; m <= n; m++ {
				some := someOf(r, l, m)
				if b, e := Combine(some); e != api.OK || !bytes.Equal(b, secret) {
					t.Errorf("%d shares of %d, of which %d are enough, %x: %x, %d, not %x", m, n, k, some, b, e, secret)
				}
			}
		}
	}
}

// TestP4_2EachChoice: of five shares each choice of at least three.
func TestP4_2EachChoice(t *testing.T) {
	secret := []byte("key")
	l := split(t, secret, 5, 3, []byte{9, 8, 7, 0xfe, 0, 0})
	for choice := range 1 << 5 {
		var some []api.Share
		for i := range l {
			if choice>>i&1 == 1 {
				some = append(some, l[i])
			}
		}
		if Need(some, 3) > 0 {
			continue
		}
		if b, e := Combine(some); e != api.OK || !bytes.Equal(b, secret) {
			t.Errorf("choice %b: %q, %d", choice, b, e)
		}
	}
}

// TestP4_2Great: the greatest secret, with the most shares, all of which are needed.
func TestP4_2Great(t *testing.T) {
	r := rand.New(rand.NewSource(48))
	secret := someBytes(r, api.MaxSecret)
	l := split(t, secret, api.MaxShares, api.MaxShares, someBytes(r, api.MaxSecret*(api.MaxShares-1)))
	if b, e := Combine(someOf(r, l, len(l))); e != api.OK || !bytes.Equal(b, secret) {
		t.Errorf("%d bytes, %d", len(b), e)
	}
}

// TestP4_3ThroughTexts: shares that were written and read again are as good.
func TestP4_3ThroughTexts(t *testing.T) {
	r := rand.New(rand.NewSource(49))
	secret := someBytes(r, 32)
	var read []api.Share
	for _, s := range split(t, secret, 5, 3, someBytes(r, 64))[1:4] {
		back, e := Read(Text(s))
		if e != api.OK {
			t.Fatalf("Read of %q: %d", Text(s), e)
		}
		read = append(read, back)
	}
	if b, e := Combine(read); e != api.OK || !bytes.Equal(b, secret) {
		t.Errorf("%x, %d, not %x", b, e, secret)
	}
}

// drawsFor are the draws with which Split of another secret answers the shares some: the polynomial of each byte goes through these, and at 0 through the byte.
func drawsFor(other []byte, some []api.Share) []byte {
	var draws []byte
	for j, b := range other {
		xs, ys := []byte{0}, []byte{b}
		for _, s := range some {
			xs, ys = append(xs, s.X), append(ys, s.Y[j])
		}
		draws = append(draws, through(xs, ys)[1:]...)
	}
	return draws
}

// TestP4_1Fewer: k - 1 shares may be of any other secret of as many bytes.
func TestP4_1Fewer(t *testing.T) {
	r := rand.New(rand.NewSource(50))
	for n := 1; n <= api.MaxShares; n++ {
		for k := 1; k <= n; k++ {
			secret, other := someBytes(r, 3), someBytes(r, 3)
			some := someOf(r, split(t, secret, n, k, someBytes(r, 3*(k-1))), k-1)
			l := split(t, other, n, k, drawsFor(other, some))
			for _, s := range some {
				if got := l[s.X-1]; !sameShare(got, s) {
					t.Errorf("%d, %d: share %d of another secret: %x, not %x", n, k, s.X, got.Y, s.Y)
				}
			}
			if b, e := Combine(l[:k]); e != api.OK || !bytes.Equal(b, other) {
				t.Errorf("%d, %d: the other secret: %x, %d", n, k, b, e)
			}
		}
	}
}

// TestP4_1FewerEach: whatever the byte is, one share of two that are needed is each byte for just one draw.
func TestP4_1FewerEach(t *testing.T) {
	for secret := range 256 {
		var seen [3][256]int
		for draw := range 256 {
			for i, s := range split(t, []byte{byte(secret)}, 3, 2, []byte{byte(draw)}) {
				seen[i][s.Y[0]]++
			}
		}
		for i := range seen {
			for y, times := range seen[i] {
				if times != 1 {
					t.Fatalf("secret %x: share %d is %x for %d draws", secret, i+1, y, times)
				}
			}
		}
	}
}
