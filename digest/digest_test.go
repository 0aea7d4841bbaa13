package digest

import (
	"bytes"
	"crypto/hmac"
	"crypto/sha256"
	"encoding/hex"
	"math/rand"
	"strings"
	"testing"
)

// someBytes are n bytes that do not repeat by blocks.
func someBytes(n int) []byte {
	b := make([]byte, n)
	rand.New(rand.NewSource(int64(n) + 1)).Read(b)
	return b
}

func libraryMac(key, b []byte) [32]byte {
	h := hmac.New(sha256.New, key)
	h.Write(b)
	return [32]byte(h.Sum(nil))
}

func TestP2_1SumExamples(t *testing.T) {
	for _, x := range []struct{ text, want string }{
		{"", "e3b0c44298fc1c149afbf4c8996fb92427ae41e4649b934ca495991b7852b855"},
		{"abc", "ba7816bf8f01cfea414140de5dae2223b00361a396177a9cb410ff61f20015ad"},
		{"abcdbcdecdefdefgefghfghighijhijkijkljklmklmnlmnomnopnopq", "248d6a61d20638b8e5c026930c3e6039a33ce45964ff2167f6ecedd419db06c1"},
		{strings.Repeat("a", 1000000), "cdc76e5c9914fb9281a1c7e284d73e67f1809a48a497200e046d39ccc7112cd0"},
	} {
		got := Sum([]byte(x.text))
		if hex.EncodeToString(got[:]) != x.want {
			t.Errorf("P2.1: Sum(%.20q): %x", x.text, got)
		}
	}
	if Sum(nil) != Sum([]byte{}) {
		t.Errorf("P2.1: nil is not as empty")
	}
}

// TestP2_1SumLengths: all lengths of some blocks, those where the padding changes among them.
func TestP2_1SumLengths(t *testing.T) {
	for n := range 330 {
		b := someBytes(n)
		if got := Sum(b); got != sha256.Sum256(b) {
			t.Errorf("P2.1: Sum of %d bytes: %x", n, got)
		}
		zeros := make([]byte, n)
		if got := Sum(zeros); got != sha256.Sum256(zeros) {
			t.Errorf("P2.1: Sum of %d bytes 0: %x", n, got)
		}
	}
}

// TestP2_1SumCounts: each byte of the count is written, as far as a test can afford it.
func TestP2_1SumCounts(t *testing.T) {
	for _, n := range []int{31, 32, 33, 8191, 8192, 8193, 1<<21 - 1, 1 << 21, 1<<21 + 1} {
		b := someBytes(n)
		if got := Sum(b); got != sha256.Sum256(b) {
			t.Errorf("P2.1: Sum of %d bytes: %x", n, got)
		}
	}
}

// TestP2_1Constants: the words are the first 32 bits behind the point of the roots of primes, worked out with whole numbers.
func TestP2_1Constants(t *testing.T) {
	n := uint64(1)
	for i := range constants {
		n = nextPrime(n)
		if !isRoot(n, uint64(constants[i]), 3) {
			t.Errorf("P2.1: K%d: %08x", i, constants[i])
		}
		if i < len(beginning) && !isRoot(n, uint64(beginning[i]), 2) {
			t.Errorf("P2.1: word %d of the beginning: %08x", i, beginning[i])
		}
	}
}

func TestP2_2MacExamples(t *testing.T) {
	for _, x := range []struct {
		key        []byte
		text, want string
	}{
		{[]byte("Jefe"), "what do ya want for nothing?", "5bdcc146bf60754e6a042426089575c75a003f089d2739839dec58b964ec3843"},
		{bytes.Repeat([]byte{0xaa}, 131), "Test Using Larger Than Block-Size Key - Hash Key First", "60e431591ee0b67f0d8a26aacbf5b77f8e0bc6213728c5140546040f0ee37f54"},
		{bytes.Repeat([]byte{0x0b}, 20), "Hi There", "b0344c61d8db38535ca8afceaf0bf12b881dc200c9833da726e9376c2e32cff7"},
		{nil, "", "b613679a0814d9ec772f95d778c35fc5ff1697c493715653c6c712144292c5ad"},
	} {
		got := Mac(x.key, []byte(x.text))
		if hex.EncodeToString(got[:]) != x.want {
			t.Errorf("P2.2: Mac(%x, %q): %x", x.key, x.text, got)
		}
	}
}

func TestP2_2MacLengths(t *testing.T) {
	for _, k := range []int{0, 1, 20, 31, 32, 33, 62, 63, 64, 65, 66, 127, 128, 129, 200} {
		for _, n := range []int{0, 1, 31, 32, 55, 56, 63, 64, 65, 119, 120, 128, 300} {
			key, b := someBytes(k), someBytes(n + 1000)[:n]
			if got := Mac(key, b); got != libraryMac(key, b) {
				t.Errorf("P2.2: Mac with %d bytes of %d: %x", k, n, got)
			}
		}
	}
}

// TestP2_2MacKeys: what the chapter says follows, and what does not.
func TestP2_2MacKeys(t *testing.T) {
	b := []byte("text")
	for _, k := range []int{65, 66, 128, 1000} {
		key := someBytes(k)
		sum := Sum(key)
		if Mac(key, b) != Mac(sum[:], b) {
			t.Errorf("P2.2: a key of %d bytes and its Sum have other Macs", k)
		}
	}
	key := someBytes(64)
	sum := Sum(key)
	if Mac(key, b) == Mac(sum[:], b) {
		t.Errorf("P2.2: a key of 64 bytes is taken for its Sum")
	}
	for k := range 64 {
		key := someBytes(k)
		if Mac(key, b) != Mac(append(bytes.Clone(key), 0), b) {
			t.Errorf("P2.2: a byte 0 behind a key of %d bytes tells", k)
		}
	}
	if Mac(key, b) == Mac(append(bytes.Clone(key), 0), b) {
		t.Errorf("P2.2: a byte 0 behind a key of 64 bytes does not tell")
	}
}

// TestArgumentsStay: what is handed in is not changed, nor the room behind it read or written.
func TestArgumentsStay(t *testing.T) {
	for _, n := range []int{0, 1, 32, 55, 56, 63, 64, 65, 130} {
		whole := someBytes(n + 200)
		before := bytes.Clone(whole)
		b := whole[:n]
		s := New()
		s.Add(b)
		if s.Sum() != sha256.Sum256(b) || Sum(b) != sha256.Sum256(b) || Mac(b, b) != libraryMac(b, b) {
			t.Errorf("R3: the room behind %d bytes is read", n)
		}
		if !bytes.Equal(whole, before) {
			t.Errorf("R3: %d bytes, or what is behind them, are changed", n)
		}
		for i := range whole {
			whole[i] = 7
		}
		if s.Sum() != sha256.Sum256(before[:n]) {
			t.Errorf("R3: %d bytes that were added are not copied", n)
		}
	}
}
