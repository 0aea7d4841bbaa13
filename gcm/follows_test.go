package gcm

import (
	"bytes"
	"math/rand"
	"testing"

	"ciborium/api"
)

// made is what Seal makes, of so many bytes.
func made(r *rand.Rand, name string, adSize, plainSize int) example {
	x := example{name: name, key: someKey(r), nonce: someNonce(r), ad: someBytes(r, adSize), plain: someBytes(r, plainSize)}
	x.sealed = Seal(x.key, x.nonce, x.ad, x.plain)
	return x
}

// TestFollowsThereAndBack: Open of what Seal makes is the plain text.
func TestFollowsThereAndBack(t *testing.T) {
	r := rand.New(rand.NewSource(78))
	for _, adSize := range someSizes() {
		for _, plainSize := range someSizes() {
			opens(t, made(r, "there and back", adSize, plainSize))
		}
	}
	opens(t, made(r, "there and back", api.MaxSealed, api.MaxSealed))
}

// TestFollowsTag: with the tag changed, in one bit or in many, it is ErrTag.
func TestFollowsTag(t *testing.T) {
	r := rand.New(rand.NewSource(79))
	for _, size := range []int{0, 16, 21} {
		whole := made(r, "the tag changed", size, size)
		tag := whole.sealed[size:]
		for i := range 128 {
			tag[i/8] ^= 1 << (i % 8)
			refuses(t, whole, api.ErrTag)
			tag[i/8] ^= 1 << (i % 8)
		}
		for range 100 {
			x := whole
			x.sealed = append(bytes.Clone(whole.sealed[:size]), someBytes(r, 16)...)
			refuses(t, x, api.ErrTag)
		}
		// Halves that are changed alike: sums of theirs would be as they were.
		x := whole
		x.sealed = bytes.Clone(whole.sealed)
		x.sealed[size] ^= 1
		x.sealed[size+8] ^= 1
		refuses(t, x, api.ErrTag)
		opens(t, whole)
	}
}

// TestFollowsNonce: with the nonce changed it is ErrTag.
func TestFollowsNonce(t *testing.T) {
	r := rand.New(rand.NewSource(80))
	for _, size := range []int{0, 16, 21} {
		x := made(r, "the nonce changed", size, size)
		for i := range 96 {
			x.nonce[i/8] ^= 1 << (i % 8)
			refuses(t, x, api.ErrTag)
			x.nonce[i/8] ^= 1 << (i % 8)
		}
		right := x.nonce
		for range 100 {
			x.nonce = someNonce(r)
			refuses(t, x, api.ErrTag)
		}
		x.nonce = right
		opens(t, x)
	}
}

// changedWithin: with each bit, and with some bits, of each long element of b changed, Open of x, of which b is a part, is ErrTag.
func changedWithin(t *testing.T, r *rand.Rand, x example, b []byte) {
	t.Helper()
	for i := range 8 * len(b) {
		b[i/8] ^= 1 << (i % 8)
		refuses(t, x, api.ErrTag)
		b[i/8] ^= 1 << (i % 8)
	}
	for from := 0; from < len(b); from += 16 {
		piece := b[from:min(from+16, len(b))]
		before := bytes.Clone(piece)
		for range 20 {
			r.Read(piece)
			if !bytes.Equal(piece, before) {
				refuses(t, x, api.ErrTag)
			}
		}
		copy(piece, before)
	}
	opens(t, x)
}

// TestFollowsElements: with some bits changed within one long element, of the text or of ad, it is ErrTag.
func TestFollowsElements(t *testing.T) {
	r := rand.New(rand.NewSource(81))
	for _, size := range []int{1, 15, 16, 17, 40} {
		x := made(r, "the text changed", size, size)
		changedWithin(t, r, x, x.sealed[:size])
		x.name = "ad changed"
		changedWithin(t, r, x, x.ad)
	}
}

// TestFollowsDiffer: of two plain texts under one key and nonce the texts differ just where the plain ones do, by the same bits.
func TestFollowsDiffer(t *testing.T) {
	r := rand.New(rand.NewSource(82))
	for _, size := range someSizes() {
		key, nonce, one, other := someKey(r), someNonce(r), someBytes(r, size), someBytes(r, size)
		copy(other[size/3:], one[size/3:size/2])
		first, second := Seal(key, nonce, []byte("ad"), one), Seal(key, nonce, nil, other)
		for j := range size {
			if first[j]^second[j] != one[j]^other[j] {
				t.Errorf("P6.1: byte %d of %d: the texts differ by %x, the plain ones by %x", j, size, first[j]^second[j], one[j]^other[j])
			}
		}
	}
}

// TestFollowsBeginning: a longer plain text has, as far as a shorter one goes, its text.
func TestFollowsBeginning(t *testing.T) {
	r := rand.New(rand.NewSource(83))
	key, nonce, plain := someKey(r), someNonce(r), someBytes(r, 70)
	whole := Seal(key, nonce, nil, plain)
	for n := range plain {
		if got := Seal(key, nonce, nil, plain[:n]); !bytes.Equal(got[:n], whole[:n]) {
			t.Errorf("P6.1: the first %d bytes: %x, not %x", n, got[:n], whole[:n])
		}
	}
}
