package share

import (
	"bytes"
	"math"
	"math/rand"
	"testing"

	"ciborium/api"
)

func TestP4_1SplitExamples(t *testing.T) {
	for _, x := range []struct {
		secret []byte
		n, k   int
		draws  []byte
		want   []api.Share
	}{
		{[]byte{0x42, 7}, 3, 2, []byte{1, 0x80}, []api.Share{{X: 1, Y: []byte{0x43, 0x87}}, {X: 2, Y: []byte{0x40, 0x1c}}, {X: 3, Y: []byte{0x41, 0x9c}}}},
		{[]byte{0x42}, 1, 1, nil, []api.Share{{X: 1, Y: []byte{0x42}}}},
		{[]byte{0x42, 7}, 2, 1, []byte{}, []api.Share{{X: 1, Y: []byte{0x42, 7}}, {X: 2, Y: []byte{0x42, 7}}}},
		// The draws of a byte are the coefficients in their order: 5, 3, 1 at 1, 2 and 3.
		{[]byte{5}, 3, 3, []byte{3, 1}, []api.Share{{X: 1, Y: []byte{7}}, {X: 2, Y: []byte{7}}, {X: 3, Y: []byte{5}}}},
		// The draws of the second byte stand behind all those of the first.
		{[]byte{0, 0}, 3, 3, []byte{0, 0, 1, 0}, []api.Share{{X: 1, Y: []byte{0, 1}}, {X: 2, Y: []byte{0, 2}}, {X: 3, Y: []byte{0, 3}}}},
	} {
		if l, e := Split(x.secret, x.n, x.k, x.draws); e != api.OK || !sameShares(l, x.want) {
			t.Errorf("P4.1: Split(%x, %d, %d, %x): %x, %d", x.secret, x.n, x.k, x.draws, l, e)
		}
	}
}

// TestP4_1SplitAll: all n and k that may be, of secrets of no bytes, of some and of all that may be.
func TestP4_1SplitAll(t *testing.T) {
	r := rand.New(rand.NewSource(41))
	for n := 1; n <= api.MaxShares; n++ {
		for k := 1; k <= n; k++ {
			for _, size := range []int{0, 1, 2, 3, 17} {
				secret, draws := someBytes(r, size), someBytes(r, size*(k-1))
				if l := split(t, secret, n, k, draws); !sameShares(l, wantShares(secret, n, k, draws)) {
					t.Errorf("P4.1: Split(%x, %d, %d, %x): %x", secret, n, k, draws, l)
				}
			}
		}
	}
	for _, x := range [][2]int{{1, 1}, {3, 2}, {api.MaxShares, 1}, {api.MaxShares, api.MaxShares}} {
		n, k := x[0], x[1]
		secret, draws := someBytes(r, api.MaxSecret), someBytes(r, api.MaxSecret*(k-1))
		if l := split(t, secret, n, k, draws); !sameShares(l, wantShares(secret, n, k, draws)) {
			t.Errorf("P4.1: Split of MaxSecret bytes, %d, %d: wrong shares", n, k)
		}
	}
}

// TestP4_1SplitNothing: a secret of no bytes has shares all the same.
func TestP4_1SplitNothing(t *testing.T) {
	for _, none := range [][]byte{nil, {}} {
		l := split(t, none, 5, 3, none)
		for i, s := range l {
			if int(s.X) != i+1 || len(s.Y) != 0 {
				t.Errorf("P4.1: share %d of nothing: %x", i, s)
			}
		}
	}
}

func TestP4_1SplitWrong(t *testing.T) {
	const least, most = math.MinInt, math.MaxInt
	for _, x := range []struct {
		size, n, k, draws int
		e                 api.Errno
	}{
		// k below 1
		{1, 3, 0, 0, api.ErrArg}, {1, 0, 0, 0, api.ErrArg}, {1, 3, -1, 0, api.ErrArg}, {1, -1, -1, 0, api.ErrArg}, {1, 3, least, 0, api.ErrArg}, {1, least, least, 0, api.ErrArg},
		{0, 1, 0, 0, api.ErrArg}, {0, 1, least, 0, api.ErrArg},
		// n below k
		{1, 2, 3, 2, api.ErrArg}, {1, 0, 1, 0, api.ErrArg}, {1, 15, 16, 15, api.ErrArg}, {1, least, 1, 0, api.ErrArg}, {1, 3, most, 0, api.ErrArg}, {0, 1, most, 0, api.ErrArg},
		// n above MaxShares
		{1, 17, 1, 0, api.ErrArg}, {1, 17, 17, 16, api.ErrArg}, {1, 257, 1, 0, api.ErrArg}, {1, most, 1, 0, api.ErrArg}, {1, most, most, 0, api.ErrArg}, {0, most, most, 0, api.ErrArg},
		// a secret that is too long
		{1025, 1, 1, 0, api.ErrLong}, {1025, 3, 2, 1025, api.ErrLong}, {5000, 16, 16, 75000, api.ErrLong},
		// too few draws, or too many
		{1, 2, 2, 0, api.ErrDraws}, {1, 2, 2, 2, api.ErrDraws}, {1, 1, 1, 1, api.ErrDraws}, {0, 1, 1, 1, api.ErrDraws}, {0, 16, 16, 15, api.ErrDraws},
		{2, 3, 3, 3, api.ErrDraws}, {2, 3, 3, 5, api.ErrDraws}, {2, 3, 3, 6, api.ErrDraws}, {2, 3, 3, 2, api.ErrDraws}, {1024, 16, 16, 15359, api.ErrDraws}, {1024, 16, 16, 15361, api.ErrDraws},
		// several at once: the first that the chapter names
		{1025, 3, 0, 0, api.ErrArg}, {1025, 2, 3, 0, api.ErrArg}, {1025, 17, 1, 5, api.ErrArg}, {1, 17, 2, 0, api.ErrArg}, {1, 2, 3, 0, api.ErrArg}, {1025, 3, 2, 0, api.ErrLong}, {1025, 1, 1, 1, api.ErrLong},
		// what may just be
		{1, 1, 1, 0, api.OK}, {1, 16, 16, 15, api.OK}, {1024, 1, 1, 0, api.OK}, {1024, 16, 16, 15360, api.OK}, {0, 16, 16, 0, api.OK},
	} {
		l, e := Split(make([]byte, x.size), x.n, x.k, make([]byte, x.draws))
		if e != x.e || e != api.OK && len(l) != 0 || e == api.OK && len(l) != x.n {
			t.Errorf("P4.1: Split of %d bytes, %d, %d, %d draws: %d shares, %d, not %d", x.size, x.n, x.k, x.draws, len(l), e, x.e)
		}
	}
}

// TestP4_1SplitLeaves: what is handed in stays as it is, the room behind its end too.
func TestP4_1SplitLeaves(t *testing.T) {
	r := rand.New(rand.NewSource(42))
	for k := 1; k <= 5; k++ {
		secret, allSecret := roomy(someBytes(r, 9))
		draws, allDraws := roomy(someBytes(r, 9*(k-1)))
		wantSecret, wantDraws := bytes.Clone(allSecret), bytes.Clone(allDraws)
		for _, s := range split(t, secret, 5, k, draws) {
			spoil(s.Y)
		}
		if !bytes.Equal(allSecret, wantSecret) || !bytes.Equal(allDraws, wantDraws) {
			t.Errorf("P4.1: k %d: what is handed in is written: %x, %x", k, allSecret, allDraws)
		}
	}
}

// TestP4_1SplitNewMemory: each part is a list of its own, to its capacity, and hangs no more on what was handed in.
func TestP4_1SplitNewMemory(t *testing.T) {
	secret, draws := []byte{1, 2, 3}, []byte{4, 5, 6}
	for _, k := range []int{1, 2} {
		given, drawn := bytes.Clone(secret), bytes.Clone(draws[:3*(k-1)])
		first, second := split(t, given, 4, k, drawn), split(t, given, 4, k, drawn)
		want := cloned(first)
		spoil(given)
		spoil(drawn)
		for i := range first {
			spoil(first[i].Y)
			first[i].X = 0xee
			if !sameShares(first[i+1:], want[i+1:]) || !sameShares(second, want) {
				t.Errorf("P4.1: k %d: share %d shares memory with another", k, i)
			}
		}
	}
}
