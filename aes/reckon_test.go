package aes

import (
	"encoding/hex"
	"math/rand"
	"testing"
)

// What the chapter says, step by step, without package field and without the program's tables.

// product is that of two elements: shift, add, and take the divisor away.
func product(a, b byte) byte {
	whole := 0
	for i := range 8 {
		whole ^= int(a) << i * (int(b) >> i & 1)
	}
	for i := 14; i >= 8; i-- {
		whole ^= 0x11b << (i - 8) * (whole >> i & 1)
	}
	return byte(whole)
}

// inverse is found by trying.
func inverse(a byte) byte {
	for b := range 256 {
		if product(a, byte(b)) == 1 {
			return byte(b)
		}
	}
	return 0
}

// wantSub is sub of x, bit by bit.
func wantSub(x byte) byte {
	y, out := inverse(x), byte(0)
	for i := range 8 {
		bit := byte(0x63) >> i
		for _, on := range []int{0, 4, 5, 6, 7} {
			bit += y >> ((i + on) % 8)
		}
		out |= bit & 1 << i
	}
	return out
}

// wantSubs is wantSub of all bytes.
func wantSubs() [256]byte {
	var out [256]byte
	for x := range out {
		out[x] = wantSub(byte(x))
	}
	return out
}

// reckoner is a key made ready by the chapter's words.
type reckoner struct {
	subs  [256]byte
	words [60][4]byte
}

func newReckoner(subs [256]byte, key [32]byte) *reckoner {
	k := &reckoner{subs: subs}
	added := byte(1)
	for i := range k.words {
		if i < 8 {
			k.words[i] = [4]byte(key[4*i : 4*i+4])
			continue
		}
		t := k.words[i-1]
		if i%8 == 0 {
			t = [4]byte{subs[t[1]] ^ added, subs[t[2]], subs[t[3]], subs[t[0]]}
			added = product(added, 2)
		}
		if i%8 == 4 {
			t = [4]byte{subs[t[0]], subs[t[1]], subs[t[2]], subs[t[3]]}
		}
		for j := range 4 {
			k.words[i][j] = k.words[i-8][j] ^ t[j]
		}
	}
	return k
}

// grid is a block by columns and rows.
type grid [4][4]byte

func (k *reckoner) add(g *grid, r int) {
	for c := range 4 {
		for row := range 4 {
			g[c][row] ^= k.words[4*r+c][row]
		}
	}
}

func (k *reckoner) block(b [16]byte) [16]byte {
	var g grid
	for i, x := range b {
		g[i/4][i%4] = x
	}
	k.add(&g, 0)
	for r := 1; r <= 14; r++ {
		old := g
		for c := range 4 {
			for row := range 4 {
				g[c][row] = k.subs[old[(c+row)%4][row]]
			}
		}
		if r != 14 {
			mix(&g)
		}
		k.add(&g, r)
	}
	var out [16]byte
	for i := range out {
		out[i] = g[i/4][i%4]
	}
	return out
}

func mix(g *grid) {
	factors := [4][4]byte{{2, 3, 1, 1}, {1, 2, 3, 1}, {1, 1, 2, 3}, {3, 1, 1, 2}}
	for c, a := range g {
		for row := range 4 {
			g[c][row] = 0
			for n := range 4 {
				g[c][row] ^= product(factors[row][n], a[n])
			}
		}
	}
}

// TestReckoner: the reckoning itself comes to the chapter's examples.
func TestReckoner(t *testing.T) {
	for _, x := range examples(t) {
		if got := newReckoner(wantSubs(), x.key).block(x.plain); got != x.sealed {
			t.Errorf("P5.2: %s: the reckoning: %x, not %x", x.name, got, x.sealed)
		}
	}
}

// example is a block, and what it is enciphered.
type example struct {
	name          string
	key           [32]byte
	plain, sealed [16]byte
}

// examples are those of the chapter (and of FIPS 197), and those of SP 800-38A for keys of 256 bits.
func examples(t *testing.T) []example {
	t.Helper()
	const rising = "000102030405060708090a0b0c0d0e0f101112131415161718191a1b1c1d1e1f"
	const zeros = "0000000000000000000000000000000000000000000000000000000000000000"
	const other = "603deb1015ca71be2b73aef0857d77811f352c073b6108d72d9810a30914dff4"
	var out []example
	for _, x := range [][4]string{
		{"the rising key", rising, "00112233445566778899aabbccddeeff", "8ea2b7ca516745bfeafc49904b496089"},
		{"the key 0", zeros, "00000000000000000000000000000000", "dc95c078a2408989ad48a21492842087"},
		{"another key, first block", other, "6bc1bee22e409f96e93d7e117393172a", "f3eed1bdb5d2a03c064b5a7e3db181f8"},
		{"another key, second block", other, "ae2d8a571e03ac9c9eb76fac45af8e51", "591ccb10d410ed26dc5ba74a31362870"},
		{"another key, third block", other, "30c81c46a35ce411e5fbc1191a0a52ef", "b6ed21b99ca6f4f9f153e7b1beafed1d"},
		{"another key, fourth block", other, "f69f2445df4f9b17ad2b417be66c3710", "23304b7a39f9f3ff067d8d8f9e24ecc7"},
	} {
		out = append(out, example{x[0], [32]byte(unhex(t, x[1])), [16]byte(unhex(t, x[2])), [16]byte(unhex(t, x[3]))})
	}
	return out
}

func unhex(t *testing.T, text string) []byte {
	t.Helper()
	b, err := hex.DecodeString(text)
	if err != nil {
		t.Fatal(err)
	}
	return b
}

func someKey(r *rand.Rand) (key [32]byte) {
	r.Read(key[:])
	return key
}

func someBlock(r *rand.Rand) (b [16]byte) {
	r.Read(b[:])
	return b
}

// edgeKeys are keys at the edges: all bits the same, and just one bit unlike the others.
func edgeKeys() [][32]byte {
	var ones [32]byte
	for i := range ones {
		ones[i] = 0xff
	}
	out := [][32]byte{{}, ones}
	for i := range 256 {
		one, other := [32]byte{}, ones
		one[i/8] ^= 1 << (i % 8)
		other[i/8] ^= 1 << (i % 8)
		out = append(out, one, other)
	}
	return out
}

// edgeBlocks are blocks at the edges, in the same way.
func edgeBlocks() [][16]byte {
	var ones [16]byte
	for i := range ones {
		ones[i] = 0xff
	}
	out := [][16]byte{{}, ones}
	for i := range 128 {
		one, other := [16]byte{}, ones
		one[i/8] ^= 1 << (i % 8)
		other[i/8] ^= 1 << (i % 8)
		out = append(out, one, other)
	}
	return out
}
