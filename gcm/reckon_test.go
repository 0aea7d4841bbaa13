package gcm

import (
	"crypto/aes"
	"crypto/cipher"
	"encoding/hex"
	"math/big"
	"math/rand"
	"testing"
)

// What the chapter says, step by step, by the library's AES and by polynomials that are great numbers: the coefficient of t^i is the bit of the value 2^i.

// polynomial is the long element that b is.
func polynomial(b []byte) *big.Int {
	p := new(big.Int)
	for i := range 128 {
		bit := b[i/8] >> (7 - i%8) & 1
		p.SetBit(p, i, uint(bit))
	}
	return p
}

// bytesOf is the 16 bytes of p.
func bytesOf(p *big.Int) (b [16]byte) {
	for i := range 128 {
		b[i/8] |= byte(p.Bit(i)) << (7 - i%8)
	}
	return b
}

// divisor is t^128 + t^7 + t^2 + t + 1.
func divisor() *big.Int {
	d := new(big.Int)
	for _, i := range []int{128, 7, 2, 1, 0} {
		d.SetBit(d, i, 1)
	}
	return d
}

// product is that of two polynomials, of which what is left behind division is taken.
func product(a, b *big.Int) *big.Int {
	p, part := new(big.Int), new(big.Int)
	for i := range b.BitLen() {
		if b.Bit(i) == 1 {
			p.Xor(p, part.Lsh(a, uint(i)))
		}
	}
	d := divisor()
	for i := p.BitLen() - 1; i >= 128; i-- {
		if p.Bit(i) == 1 {
			p.Xor(p, part.Lsh(d, uint(i-128)))
		}
	}
	return p
}

// filled is b with bytes 0 behind it up to a multiple of 16.
func filled(b []byte) []byte {
	out := append([]byte(nil), b...)
	for len(out)%16 != 0 {
		out = append(out, 0)
	}
	return out
}

// eightfold is eight times n as eight bytes, told by division.
func eightfold(n int) []byte {
	out := make([]byte, 8)
	for i, n := 7, 8*n; i >= 0; i, n = i-1, n/256 {
		out[i] = byte(n % 256)
	}
	return out
}

// wantHash is the hash of ad and text by h.
func wantHash(h [16]byte, ad, text []byte) [16]byte {
	all := append(filled(ad), filled(text)...)
	all = append(append(all, eightfold(len(ad))...), eightfold(len(text))...)
	y, factor := new(big.Int), polynomial(h[:])
	for ; len(all) > 0; all = all[16:] {
		y = product(y.Xor(y, polynomial(all[:16])), factor)
	}
	return bytesOf(y)
}

// enciphered is Ek of b, by the library.
func enciphered(key [32]byte, b [16]byte) (out [16]byte) {
	c, err := aes.NewCipher(key[:])
	if err != nil {
		panic(err)
	}
	c.Encrypt(out[:], b[:])
	return out
}

// wantCounter is Ek of the counter block i.
func wantCounter(key [32]byte, nonce [12]byte, i int) [16]byte {
	b := append(nonce[:], byte(i/(1<<24)), byte(i/(1<<16)), byte(i/(1<<8)), byte(i))
	return enciphered(key, [16]byte(b))
}

// wantSeal is Seal by the chapter's words, without its limits.
func wantSeal(key [32]byte, nonce [12]byte, ad, plain []byte) []byte {
	text := make([]byte, len(plain))
	for j, x := range plain {
		text[j] = x ^ wantCounter(key, nonce, 2+j/16)[j%16]
	}
	tag := wantHash(enciphered(key, [16]byte{}), ad, text)
	for i, x := range wantCounter(key, nonce, 1) {
		tag[i] ^= x
	}
	return append(text, tag[:]...)
}

// librarySeal is what the library's GCM makes, which has no limits that matter here.
func librarySeal(key [32]byte, nonce [12]byte, ad, plain []byte) []byte {
	c, err := aes.NewCipher(key[:])
	if err != nil {
		panic(err)
	}
	g, err := cipher.NewGCM(c)
	if err != nil {
		panic(err)
	}
	return g.Seal(nil, nonce[:], plain, ad)
}

// example is what is sealed, and what it is then.
type example struct {
	name      string
	key       [32]byte
	nonce     [12]byte
	ad, plain []byte
	sealed    []byte
}

// examples are those of the chapter, and those of the mode's own paper for keys of 256 bits.
func examples(t *testing.T) []example {
	t.Helper()
	const key = "feffe9928665731c6d6a8f9467308308feffe9928665731c6d6a8f9467308308"
	const nonce = "cafebabefacedbaddecaf888"
	const zeros = "0000000000000000000000000000000000000000000000000000000000000000"
	const plain = "d9313225f88406e5a55909c5aff5269a86a7a9531534f7da2e4c303d8a318a721c3c0c95956809532fcf0e2449a6b525b16aedf5aa0de657ba637b39"
	const text = "522dc1f099567d07f47f37a32a84427d643a8cdcbfe5c0c97598a2bd2555d1aa8cb08e48590dbb3da7b08b1056828838c5f61e6393ba7a0abcc9f662"
	var out []example
	for _, x := range [][6]string{
		{"nothing", zeros, zeros[:24], "", "", "530f8afbc74536b9a963b4f1c4cb738b"},
		{"16 bytes 0", zeros, zeros[:24], "", zeros[:32], "cea7403d4d606b6e074ec5d3baf39d18" + "d0d1c8a799996bf0265b98b5d48ab919"},
		{"64 bytes", key, nonce, "", plain + "1aafd255", text + "898015ad" + "b094dac5d93471bdec1a502270e3cc6c"},
		{"60 bytes with ad", key, nonce, "feedfacedeadbeeffeedfacedeadbeefabaddad2", plain, text + "76fc6ece0f4e1768cddf8853bb2d551b"},
	} {
		out = append(out, example{x[0], [32]byte(unhex(t, x[1])), [12]byte(unhex(t, x[2])), unhex(t, x[3]), unhex(t, x[4]), unhex(t, x[5])})
	}
	return out
}

func unhex(t *testing.T, text string) []byte {
	t.Helper()
	b, err := hex.DecodeString(text)
	if err != nil {
		t.Fatal(err)
	}
	return b
}

// TestReckoner: the reckoning itself comes to the examples, and so does the library.
func TestReckoner(t *testing.T) {
	for _, x := range examples(t) {
		if got := wantSeal(x.key, x.nonce, x.ad, x.plain); string(got) != string(x.sealed) {
			t.Errorf("P6.1: %s: the reckoning: %x, not %x", x.name, got, x.sealed)
		}
		if got := librarySeal(x.key, x.nonce, x.ad, x.plain); string(got) != string(x.sealed) {
			t.Errorf("P6.1: %s: the library: %x, not %x", x.name, got, x.sealed)
		}
	}
}

func someBytes(r *rand.Rand, n int) []byte {
	b := make([]byte, n)
	r.Read(b)
	return b
}

func someKey(r *rand.Rand) [32]byte { return [32]byte(someBytes(r, 32)) }

func someNonce(r *rand.Rand) [12]byte { return [12]byte(someBytes(r, 12)) }

// someSizes are numbers of bytes: none, multiples of 16, those beside them, and others.
func someSizes() []int {
	return []int{0, 1, 2, 7, 8, 9, 15, 16, 17, 23, 31, 32, 33, 47, 48, 49, 63, 64, 65, 100, 255, 256, 257, 1000}
}

// ones is n bytes whose bits are all 1.
func ones(n int) []byte {
	b := make([]byte, n)
	for i := range b {
		b[i] = 0xff
	}
	return b
}
