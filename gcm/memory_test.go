package gcm

import (
	"bytes"
	"math/rand"
	"testing"

	"ciborium/api"
)

// roomy is b as the beginning of a list with room behind it, and the whole of that.
func roomy(b []byte) (piece, whole []byte) {
	whole = append(bytes.Clone(b), bytes.Repeat([]byte{0x99}, 64)...)
	return whole[:len(b)], whole
}

// spoil writes over all of b, and the room behind it.
func spoil(b []byte) {
	b = b[:cap(b)]
	for i := range b {
		b[i] ^= 0xee
	}
}

// TestSealLeavesArguments: what is handed in stays, the room behind it too; what is told is the caller's own.
func TestSealLeavesArguments(t *testing.T) {
	r := rand.New(rand.NewSource(74))
	for _, size := range []int{0, 1, 16, 17, 40} {
		key, nonce := someKey(r), someNonce(r)
		ad, adWhole := roomy(someBytes(r, size))
		plain, plainWhole := roomy(someBytes(r, size))
		adBefore, plainBefore := bytes.Clone(adWhole), bytes.Clone(plainWhole)
		want := wantSeal(key, nonce, ad, plain)
		first, second := Seal(key, nonce, ad, plain), Seal(key, nonce, ad, plain)
		spoil(first)
		if !bytes.Equal(adWhole, adBefore) || !bytes.Equal(plainWhole, plainBefore) {
			t.Errorf("R3: Seal of %d bytes changes what it is handed", size)
		}
		spoil(ad)
		spoil(plain)
		if !bytes.Equal(second, want) {
			t.Errorf("R3: the answer of Seal of %d bytes shares memory", size)
		}
	}
}

// TestOpenLeavesArguments: the same of Open, with the right tag and with a wrong one.
func TestOpenLeavesArguments(t *testing.T) {
	r := rand.New(rand.NewSource(75))
	for _, size := range []int{0, 1, 16, 17, 40} {
		x := libraryMade(r, "roomy", size, size)
		ad, adWhole := roomy(x.ad)
		sealed, sealedWhole := roomy(x.sealed)
		adBefore, sealedBefore := bytes.Clone(adWhole), bytes.Clone(sealedWhole)
		first, e1 := Open(x.key, x.nonce, ad, sealed)
		second, e2 := Open(x.key, x.nonce, ad, sealed)
		_, e3 := Open(x.key, [12]byte{}, ad, sealed)
		spoil(first)
		if !bytes.Equal(adWhole, adBefore) || !bytes.Equal(sealedWhole, sealedBefore) {
			t.Errorf("R3: Open of %d bytes changes what it is handed", size)
		}
		spoil(ad)
		spoil(sealed)
		if e1 != api.OK || e2 != api.OK || e3 != api.ErrTag || !bytes.Equal(second, x.plain) {
			t.Errorf("R3: the answer of Open of %d bytes shares memory: %d, %d, %d", size, e1, e2, e3)
		}
	}
}

// TestArgumentsOfOneMemory: ad may be the text itself, or a piece of it.
func TestArgumentsOfOneMemory(t *testing.T) {
	r := rand.New(rand.NewSource(76))
	key, nonce, b := someKey(r), someNonce(r), someBytes(r, 50)
	if got, want := Seal(key, nonce, b, b), librarySeal(key, nonce, bytes.Clone(b), bytes.Clone(b)); !bytes.Equal(got, want) {
		t.Errorf("R3: ad and text of one memory: %x, not %x", got, want)
	}
	sealed := librarySeal(key, nonce, b[:20], b)
	whole := append(bytes.Clone(b[:20]), sealed...)
	opens(t, example{name: "of one memory", key: key, nonce: nonce, ad: whole[:20], plain: b, sealed: whole[20:]})
}

// TestNothingIsKept: a call tells the same whatever was asked between.
func TestNothingIsKept(t *testing.T) {
	r := rand.New(rand.NewSource(77))
	x, y := libraryMade(r, "one", 3, 33), libraryMade(r, "other", 20, 5)
	for range 3 {
		for _, z := range []example{x, y} {
			opens(t, z)
			if got := Seal(z.key, z.nonce, z.ad, z.plain); !bytes.Equal(got, z.sealed) {
				t.Errorf("R5: %s: %x, not %x", z.name, got, z.sealed)
			}
			z.nonce[0]++
			refuses(t, z, api.ErrTag)
			z.sealed = z.sealed[:3]
			refuses(t, z, api.ErrShort)
		}
	}
}
