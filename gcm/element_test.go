package gcm

import (
	"math/rand"
	"testing"
)

// single is the long element t^i.
func single(i int) (b [16]byte) {
	b[i/8] = 1 << (7 - i%8)
	return b
}

// sameProduct: the product of a and b is what polynomials come to.
func sameProduct(t *testing.T, a, b [16]byte) {
	t.Helper()
	want := bytesOf(product(polynomial(a[:]), polynomial(b[:])))
	if got := elementOf(a).times(elementOf(b)).bytes(); got != want {
		t.Errorf("P6.1: %x times %x: %x, not %x", a, b, got, want)
	}
}

// TestP6_1TimesEach: each power of t by each.
func TestP6_1TimesEach(t *testing.T) {
	for i := range 128 {
		for j := range 128 {
			sameProduct(t, single(i), single(j))
		}
	}
}

func TestP6_1TimesMany(t *testing.T) {
	r := rand.New(rand.NewSource(61))
	all := [16]byte(ones(16))
	sameProduct(t, all, all)
	for i := range 128 {
		sameProduct(t, all, single(i))
		sameProduct(t, single(i), all)
	}
	for range 500 {
		sameProduct(t, [16]byte(someBytes(r, 16)), [16]byte(someBytes(r, 16)))
	}
}

// TestP6_1TimesKnown: t^127 by t is t^7 + t^2 + t + 1; 1, which is t^0, leaves all as it is, and 0 leaves nothing.
func TestP6_1TimesKnown(t *testing.T) {
	last, first := elementOf(single(127)), elementOf(single(0))
	if got := last.times(elementOf(single(1))).bytes(); got != [16]byte{0xe1} {
		t.Errorf("P6.1: t^127 times t: %x", got)
	}
	r := rand.New(rand.NewSource(62))
	for range 50 {
		x := elementOf([16]byte(someBytes(r, 16)))
		if x.times(first) != x || first.times(x) != x {
			t.Errorf("P6.1: %x by 1: %x, %x", x, x.times(first), first.times(x))
		}
		if x.times(element{}) != (element{}) || (element{}).times(x) != (element{}) {
			t.Errorf("P6.1: %x by 0: %x, %x", x, x.times(element{}), element{}.times(x))
		}
	}
}

func TestP6_1ElementBytes(t *testing.T) {
	b := [16]byte{0, 1, 2, 3, 4, 5, 6, 7, 8, 9, 10, 11, 12, 13, 14, 15}
	if got := elementOf(b); got != (element{0x0001020304050607, 0x08090a0b0c0d0e0f}) {
		t.Errorf("P6.1: the element of %x: %x", b, got)
	}
	for i := range 128 {
		e := elementOf(single(i))
		if e.bytes() != single(i) {
			t.Errorf("P6.1: t^%d as bytes: %x", i, e.bytes())
		}
		for j := range 128 {
			if e.has(j) != (i == j) {
				t.Errorf("P6.1: t^%d has t^%d: %t", i, j, e.has(j))
			}
		}
	}
}

// TestP6_2Same: elements that differ in any bit are not the same.
func TestP6_2Same(t *testing.T) {
	r := rand.New(rand.NewSource(63))
	x := elementOf([16]byte(someBytes(r, 16)))
	if !x.same(x) || !(element{}).same(element{}) {
		t.Errorf("P6.2: an element is not the same as itself")
	}
	for i := range 128 {
		other := x.plus(elementOf(single(i)))
		if x.same(other) || other.same(x) {
			t.Errorf("P6.2: %x and %x are the same", x, other)
		}
	}
	mirrored := element{1, 1}
	if mirrored.same(element{}) || (element{}).same(mirrored) {
		t.Errorf("P6.2: %x is the same as 0", mirrored)
	}
}

// TestP6_1Hash: ad and text of all kinds of sizes.
func TestP6_1Hash(t *testing.T) {
	r := rand.New(rand.NewSource(64))
	for _, adSize := range someSizes() {
		for _, textSize := range []int{0, 1, 15, 16, 17, 32, 65} {
			h, ad, text := [16]byte(someBytes(r, 16)), someBytes(r, adSize), someBytes(r, textSize)
			want := wantHash(h, ad, text)
			if got := hashOf(elementOf(h), ad, text).bytes(); got != want {
				t.Errorf("P6.1: the hash of %d and %d bytes: %x, not %x", adSize, textSize, got, want)
			}
		}
	}
}

// TestP6_1HashSizes: bytes 0 behind ad or text count, and so does which of them stand where.
func TestP6_1HashSizes(t *testing.T) {
	h := elementOf([16]byte{1, 2, 3})
	seen := map[element][2]int{}
	for adSize := range 34 {
		for textSize := range 34 {
			got := hashOf(h, make([]byte, adSize), make([]byte, textSize))
			if before, ok := seen[got]; ok {
				t.Errorf("P6.1: bytes 0, %v and %d %d of them, have one hash", before, adSize, textSize)
			}
			seen[got] = [2]int{adSize, textSize}
		}
	}
}

// TestP6_1HashBy0: where H is 0, so is every hash.
func TestP6_1HashBy0(t *testing.T) {
	if got := hashOf(element{}, []byte("ad"), []byte("text")); got != (element{}) {
		t.Errorf("P6.1: the hash by 0: %x", got)
	}
}
