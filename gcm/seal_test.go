package gcm

import (
	"bytes"
	"math/rand"
	"testing"

	"ciborium/aes"
	"ciborium/api"
)

func TestP6_1SealExamples(t *testing.T) {
	for _, x := range examples(t) {
		if got := Seal(x.key, x.nonce, x.ad, x.plain); !bytes.Equal(got, x.sealed) {
			t.Errorf("P6.1: %s: %x, not %x", x.name, got, x.sealed)
		}
	}
}

// TestP6_1SealSizes: texts and ad of each size by the chapter's words, which the library has too.
func TestP6_1SealSizes(t *testing.T) {
	r := rand.New(rand.NewSource(65))
	for _, adSize := range someSizes() {
		for _, plainSize := range someSizes() {
			key, nonce, ad, plain := someKey(r), someNonce(r), someBytes(r, adSize), someBytes(r, plainSize)
			got := Seal(key, nonce, ad, plain)
			if want := wantSeal(key, nonce, ad, plain); !bytes.Equal(got, want) {
				t.Errorf("P6.1: ad of %d, plain of %d bytes: %x, not %x", adSize, plainSize, got, want)
			}
			if want := librarySeal(key, nonce, ad, plain); !bytes.Equal(got, want) {
				t.Errorf("P6.1: ad of %d, plain of %d bytes: %x, the library has %x", adSize, plainSize, got, want)
			}
		}
	}
}

// TestP6_1SealEdges: keys, nonces, ad and texts whose bits are all the same.
func TestP6_1SealEdges(t *testing.T) {
	all := [][]byte{make([]byte, 40), ones(40)}
	for _, k := range all {
		for _, n := range all {
			for _, ad := range all {
				for _, plain := range all {
					key, nonce := [32]byte(k[:32]), [12]byte(n[:12])
					want := wantSeal(key, nonce, ad, plain)
					if got := Seal(key, nonce, ad, plain); !bytes.Equal(got, want) {
						t.Errorf("P6.1: %x, %x, %x, %x: %x, not %x", key, nonce, ad, plain, got, want)
					}
				}
			}
		}
	}
}

// TestP6_1SealGreat: up to MaxSealed bytes, ad's, plain's or both; one more is too many.
func TestP6_1SealGreat(t *testing.T) {
	r := rand.New(rand.NewSource(66))
	key, nonce := someKey(r), someNonce(r)
	whole := someBytes(r, 2*api.MaxSealed)
	const most = 65536
	for _, x := range [][2]int{
		{0, most}, {most, 0}, {most, most}, {most - 1, most - 1}, {most, 1}, {1, most},
		{0, 253 * 16}, {0, 254 * 16}, {0, 254*16 + 1}, {0, 255*16 + 1}, {0, 256 * 16}, {0, 257 * 16},
	} {
		ad, plain := whole[:x[0]], whole[:x[1]]
		want := librarySeal(key, nonce, ad, plain)
		if got := Seal(key, nonce, ad, plain); !bytes.Equal(got, want) {
			t.Errorf("P6.1: ad of %d, plain of %d bytes: %d bytes, which are wrong", x[0], x[1], len(got))
		}
	}
	for _, x := range [][2]int{
		{0, most + 1}, {most + 1, 0}, {most + 1, most + 1}, {most, most + 1}, {most + 1, most}, {5, most + 1}, {most + 1, 5},
		{0, most + 16}, {0, 2 * most}, {2 * most, 0}, {2 * most, 2 * most},
	} {
		if got := Seal(key, nonce, whole[:x[0]], whole[:x[1]]); got != nil {
			t.Errorf("P6.1: ad of %d, plain of %d bytes: %d bytes, not nil", x[0], x[1], len(got))
		}
	}
}

// TestP6_1SealNil: nil and empty lists are the same.
func TestP6_1SealNil(t *testing.T) {
	r := rand.New(rand.NewSource(67))
	key, nonce, b := someKey(r), someNonce(r), someBytes(r, 20)
	if !bytes.Equal(Seal(key, nonce, nil, b), Seal(key, nonce, []byte{}, b)) {
		t.Errorf("R3: nil ad is not as an empty one")
	}
	if !bytes.Equal(Seal(key, nonce, b, nil), Seal(key, nonce, b, []byte{})) {
		t.Errorf("R3: a nil text is not as an empty one")
	}
	if got := Seal(key, nonce, nil, nil); len(got) != 16 {
		t.Errorf("P6.1: of nothing there are %d bytes", len(got))
	}
}

// TestP6_1KeyStream: block by block, the counter blocks from 1 on; two streams count each for itself.
func TestP6_1KeyStream(t *testing.T) {
	r := rand.New(rand.NewSource(68))
	key, nonce, other := someKey(r), someNonce(r), someNonce(r)
	next, beside := keyStream(aes.Expand(key), nonce), keyStream(aes.Expand(key), other)
	for i := 1; i <= 600; i++ {
		if got, want := next(), wantCounter(key, nonce, i); got != want {
			t.Fatalf("P6.1: block %d: %x, not %x", i, got, want)
		}
		if i%3 == 0 {
			if got, want := beside(), wantCounter(key, other, i/3); got != want {
				t.Fatalf("P6.1: block %d beside it: %x, not %x", i/3, got, want)
			}
		}
	}
}

func TestP6_1CounterBlock(t *testing.T) {
	nonce := [12]byte{1, 2, 3, 4, 5, 6, 7, 8, 9, 10, 11, 12}
	for _, x := range []struct {
		count uint32
		want  [4]byte
	}{
		{0, [4]byte{}}, {1, [4]byte{0, 0, 0, 1}}, {255, [4]byte{0, 0, 0, 255}}, {256, [4]byte{0, 0, 1, 0}},
		{4097, [4]byte{0, 0, 16, 1}}, {65536, [4]byte{0, 1, 0, 0}}, {0x01020304, [4]byte{1, 2, 3, 4}}, {1<<32 - 1, [4]byte{255, 255, 255, 255}},
	} {
		want := [16]byte(append(nonce[:], x.want[:]...))
		if got := counterBlock(nonce, x.count); got != want {
			t.Errorf("P6.1: the counter block %d: %x, not %x", x.count, got, want)
		}
	}
}
