package digest

import "math/bits"

// The words of a state without bytes.
var beginning = [8]uint32{0x6a09e667, 0xbb67ae85, 0x3c6ef372, 0xa54ff53a, 0x510e527f, 0x9b05688c, 0x1f83d9ab, 0x5be0cd19}

// The constants K0 to K63: a word for each step of a block.
var constants = [64]uint32{
	0x428a2f98, 0x71374491, 0xb5c0fbcf, 0xe9b5dba5, 0x3956c25b, 0x59f111f1, 0x923f82a4, 0xab1c5ed5,
	0xd807aa98, 0x12835b01, 0x243185be, 0x550c7dc3, 0x72be5d74, 0x80deb1fe, 0x9bdc06a7, 0xc19bf174,
	0xe49b69c1, 0xefbe4786, 0x0fc19dc6, 0x240ca1cc, 0x2de92c6f, 0x4a7484aa, 0x5cb0a9dc, 0x76f988da,
	0x983e5152, 0xa831c66d, 0xb00327c8, 0xbf597fc7, 0xc6e00bf3, 0xd5a79147, 0x06ca6351, 0x14292967,
	0x27b70a85, 0x2e1b2138, 0x4d2c6dfc, 0x53380d13, 0x650a7354, 0x766a0abb, 0x81c2c92e, 0x92722c85,
	0xa2bfe8a1, 0xa81a664b, 0xc24b8b70, 0xc76c51a3, 0xd192e819, 0xd6990624, 0xf40e3585, 0x106aa070,
	0x19a4c116, 0x1e376c08, 0x2748774c, 0x34b0bcb5, 0x391c0cb3, 0x4ed8aa4a, 0x5b9cca4f, 0x682e6ff3,
	0x748f82ee, 0x78a5636f, 0x84c87814, 0x8cc70208, 0x90befffa, 0xa4506ceb, 0xbef9a3f7, 0xc67178f2,
}

// mixed is what a block makes of the words that there are ahead of it.
func mixed(words [8]uint32, block [64]byte) [8]uint32 {
	w := schedule(block)
	a, b, c, d, e, f, g, h := words[0], words[1], words[2], words[3], words[4], words[5], words[6], words[7]
	for t := range w {
		t1 := h + bigS1(e) + choice(e, f, g) + constants[t] + w[t]
		t2 := bigS0(a) + majority(a, b, c)
		h, g, f, e = g, f, e, d+t1
		d, c, b, a = c, b, a, t1+t2
	}
	for i, x := range [8]uint32{a, b, c, d, e, f, g, h} {
		words[i] += x
	}
	return words
}

// schedule is the words w0 to w63 of a block.
func schedule(block [64]byte) [64]uint32 {
	var w [64]uint32
	for t := range 16 {
		for _, x := range block[4*t : 4*t+4] {
			w[t] = w[t]<<8 | uint32(x)
		}
	}
	for t := 16; t < 64; t++ {
		w[t] = smallS1(w[t-2]) + w[t-7] + smallS0(w[t-15]) + w[t-16]
	}
	return w
}

// wordBytes is the bytes of the words, one word's behind the other's.
func wordBytes(words [8]uint32) [32]byte {
	var out [32]byte
	for i, x := range words {
		out[4*i] = byte(x >> 24)
		out[4*i+1] = byte(x >> 16)
		out[4*i+2] = byte(x >> 8)
		out[4*i+3] = byte(x)
	}
	return out
}

func rotr(x uint32, n int) uint32 { return bits.RotateLeft32(x, -n) }

func smallS0(x uint32) uint32 { return rotr(x, 7) ^ rotr(x, 18) ^ (x >> 3) }

func smallS1(x uint32) uint32 { return rotr(x, 17) ^ rotr(x, 19) ^ (x >> 10) }

func bigS0(x uint32) uint32 { return rotr(x, 2) ^ rotr(x, 13) ^ rotr(x, 22) }

func bigS1(x uint32) uint32 { return rotr(x, 6) ^ rotr(x, 11) ^ rotr(x, 25) }

func choice(x, y, z uint32) uint32 { return (x & y) ^ (^x & z) }

func majority(x, y, z uint32) uint32 { return (x & y) ^ (x & z) ^ (y & z) }
