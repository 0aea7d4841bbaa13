package digest

import (
	"crypto/sha256"
	"math/big"
	"testing"
)

func TestP2_3New(t *testing.T) {
	first, second := New(), New()
	if first == nil || first.Sum() != sha256.Sum256(nil) {
		t.Fatalf("P2.3: a new state has bytes")
	}
	first.Add([]byte("a"))
	if second.Sum() != sha256.Sum256(nil) || New().Sum() != sha256.Sum256(nil) {
		t.Errorf("P2.3: what is added to one state comes to another one")
	}
}

// TestP2_3Pieces: bytes in two pieces, cut wherever, and in pieces of one length.
func TestP2_3Pieces(t *testing.T) {
	for _, n := range []int{0, 1, 55, 56, 63, 64, 65, 119, 120, 127, 128, 129, 200} {
		b := someBytes(n)
		want := sha256.Sum256(b)
		for cut := 0; cut <= n; cut++ {
			s := New()
			s.Add(b[:cut])
			s.Add(b[cut:])
			if got := s.Sum(); got != want {
				t.Errorf("P2.3: %d bytes, cut at %d: %x", n, cut, got)
			}
		}
		for piece := 1; piece <= n; piece++ {
			if got := inPieces(b, piece).Sum(); got != want {
				t.Errorf("P2.3: %d bytes in pieces of %d: %x", n, piece, got)
			}
		}
	}
}

func inPieces(b []byte, piece int) *State {
	s := New()
	for len(b) > 0 {
		n := min(piece, len(b))
		s.Add(b[:n])
		b = b[n:]
	}
	return s
}

func TestP2_3AddNothing(t *testing.T) {
	for _, n := range []int{0, 1, 63, 64, 65} {
		b := someBytes(n)
		s := New()
		s.Add(nil)
		s.Add(b)
		s.Add(nil)
		s.Add([]byte{})
		if s.Sum() != sha256.Sum256(b) {
			t.Errorf("P2.3: nothing is added to %d bytes, and tells", n)
		}
	}
}

// TestP2_3SumStays: a state that is asked after each byte goes on as if it had not been.
func TestP2_3SumStays(t *testing.T) {
	b := someBytes(260)
	s := New()
	for n := range b {
		want := sha256.Sum256(b[:n])
		if first, second := s.Sum(), s.Sum(); first != want || second != want {
			t.Errorf("P2.3: Sum of %d bytes, twice: %x, %x", n, first, second)
		}
		s.Add(b[n : n+1])
	}
}

func TestP2_3Copy(t *testing.T) {
	for n := range 200 {
		b := someBytes(n)
		s := New()
		s.Add(b)
		c := s.Copy()
		if c == nil || c == s || c.Sum() != sha256.Sum256(b) {
			t.Fatalf("P2.3: the copy of a state with %d bytes", n)
		}
		more, other := someBytes(n%90+1), someBytes(n%70+2)
		s.Add(more)
		d := c.Copy()
		c.Add(other)
		wantState := sha256.Sum256(append(someBytes(n), more...))
		wantCopy := sha256.Sum256(append(someBytes(n), other...))
		if s.Sum() != wantState || c.Sum() != wantCopy || d.Sum() != sha256.Sum256(b) {
			t.Errorf("P2.3: a state with %d bytes and its copies do not go on apart", n)
		}
	}
}

func TestP2_3Nil(t *testing.T) {
	var s *State
	s.Add(nil)
	s.Add([]byte("abc"))
	if s.Sum() != [32]byte{} {
		t.Errorf("P2.3: Sum of nil: %x", s.Sum())
	}
	if s.Copy() != nil {
		t.Errorf("P2.3: Copy of nil is a state")
	}
}

func nextPrime(n uint64) uint64 {
	for n++; !big.NewInt(int64(n)).ProbablyPrime(10); n++ {
	}
	return n
}

// isRoot: w is the first 32 bits behind the point of the root of n, that is, for some whole r, (r 2^32 + w)^power <= n 2^(32 power) < (r 2^32 + w + 1)^power.
func isRoot(n, w uint64, power int64) bool {
	most := new(big.Int).Lsh(big.NewInt(int64(n)), uint(32*power))
	for r := range int64(20) {
		x := new(big.Int).Lsh(big.NewInt(r), 32)
		x.Add(x, new(big.Int).SetUint64(w))
		low := new(big.Int).Exp(x, big.NewInt(power), nil)
		high := new(big.Int).Exp(x.Add(x, big.NewInt(1)), big.NewInt(power), nil)
		if low.Cmp(most) <= 0 && most.Cmp(high) < 0 {
			return true
		}
	}
	return false
}
