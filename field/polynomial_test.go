package field

import (
	"bytes"
	"math/rand"
	"testing"

	"ciborium/api"
)

// valueAt is what P3.4 says of Eval(c, x): the sum of the products.
func valueAt(c []byte, x byte) byte {
	var sum byte
	for i := range c {
		sum ^= product(c[i], repeated(x, uint64(i)))
	}
	return sum
}

// throughPoints is P3.5's sum of products.
func throughPoints(xs, ys []byte) byte {
	var sum byte
	for i := range xs {
		term := ys[i]
		for k := range xs {
			if k != i {
				term = product(term, product(xs[k], inverse(xs[k]^xs[i])))
			}
		}
		sum ^= term
	}
	return sum
}

// someBytes are n bytes, others for each n.
func someBytes(r *rand.Rand, n int) []byte {
	b := make([]byte, n)
	r.Read(b)
	return b
}

// somePlaces are n unlike elements, none of them 0, in no order.
func somePlaces(r *rand.Rand, n int) []byte {
	var xs []byte
	for _, i := range r.Perm(255)[:n] {
		xs = append(xs, byte(i+1))
	}
	return xs
}

func valuesAt(c, xs []byte) []byte {
	var ys []byte
	for _, x := range xs {
		ys = append(ys, Eval(c, x))
	}
	return ys
}

func TestP3_4EvalExamples(t *testing.T) {
	for _, x := range []struct {
		c       []byte
		x, want byte
	}{
		{[]byte{5, 3, 1}, 2, 7},
		{[]byte{5, 3, 1}, 0, 5},
		{[]byte{5, 3, 1}, 1, 7},
		{nil, 9, 0},
		{nil, 0, 0},
		{[]byte{}, 1, 0},
		{[]byte{0x42}, 0, 0x42},
		{[]byte{0x42}, 0xff, 0x42},
		{[]byte{0, 1}, 0xca, 0xca},
		{[]byte{0, 0, 0, 0, 0, 0, 0, 0, 1}, 2, 0x1b},
	} {
		if got := Eval(x.c, x.x); got != x.want {
			t.Errorf("P3.4: Eval(%x, %x): %x", x.c, x.x, got)
		}
	}
}

func TestP3_4EvalAll(t *testing.T) {
	r := rand.New(rand.NewSource(34))
	for _, n := range []int{0, 1, 2, 3, 4, 7, 16, 17, 255, 256, 257, 600} {
		c := someBytes(r, n)
		for x := range 256 {
			if got, want := Eval(c, byte(x)), valueAt(c, byte(x)); got != want {
				t.Errorf("P3.4: Eval of %d coefficients at %x: %x, not %x", n, x, got, want)
			}
		}
	}
}

// TestP3_4EvalEach: each coefficient counts, with its own power.
func TestP3_4EvalEach(t *testing.T) {
	for i := range 300 {
		c := make([]byte, 300)
		c[i] = 0x53
		if got, want := Eval(c, 3), product(0x53, repeated(3, uint64(i))); got != want {
			t.Errorf("P3.4: 53 times 3^%d: %x, not %x", i, got, want)
		}
	}
}

func TestP3_5AtZeroExamples(t *testing.T) {
	for _, x := range []struct {
		xs, ys []byte
		want   byte
	}{
		{[]byte{1, 2, 3}, []byte{7, 7, 5}, 5},
		{[]byte{3, 1}, []byte{0x41, 0x43}, 0x42},
		{[]byte{2}, []byte{0x40}, 0x40},
		{[]byte{255}, []byte{0}, 0},
		{[]byte{1, 2, 4}, []byte{0, 0, 0}, 0},
	} {
		if y, e := AtZero(x.xs, x.ys); y != x.want || e != api.OK {
			t.Errorf("P3.5: AtZero(%x, %x): %x, %d", x.xs, x.ys, y, e)
		}
	}
}

// TestP3_5AtZeroPairs: all two places, held against the sum that the chapter tells.
func TestP3_5AtZeroPairs(t *testing.T) {
	eachPair(func(a, b byte) {
		if a == 0 || b == 0 || a == b {
			return
		}
		xs, ys := []byte{a, b}, []byte{b ^ 0x35, a ^ 0xd1}
		want := product(ys[0], product(b, inverse(a^b))) ^ product(ys[1], product(a, inverse(a^b)))
		if y, e := AtZero(xs, ys); y != want || e != api.OK {
			t.Errorf("P3.5: AtZero(%x, %x): %x, %d", xs, ys, y, e)
		}
	})
}

func TestP3_5AtZeroSums(t *testing.T) {
	r := rand.New(rand.NewSource(35))
	for n := 1; n <= 20; n++ {
		for range 10 {
			xs, ys := somePlaces(r, n), someBytes(r, n)
			if y, e := AtZero(xs, ys); y != throughPoints(xs, ys) || e != api.OK {
				t.Errorf("P3.5: AtZero(%x, %x): %x, %d", xs, ys, y, e)
			}
		}
	}
}

// TestP3_5AtZeroTellsAgain: a polynomial with no more coefficients than there are points, told again by its values.
func TestP3_5AtZeroTellsAgain(t *testing.T) {
	r := rand.New(rand.NewSource(350))
	for points := 1; points <= 255; points++ {
		xs := somePlaces(r, points)
		for _, n := range []int{1, 2, points / 2, points - 1, points} {
			if n < 1 || n > points {
				continue
			}
			c := someBytes(r, n)
			if y, e := AtZero(xs, valuesAt(c, xs)); y != c[0] || e != api.OK {
				t.Errorf("P3.5: %d coefficients by %d points: %x, %d, not %x", n, points, y, e, c[0])
			}
		}
		if y, e := AtZero(xs, valuesAt(nil, xs)); y != 0 || e != api.OK {
			t.Errorf("P3.5: no coefficients by %d points: %x, %d", points, y, e)
		}
	}
}

// TestP3_5AtZeroOneFew: with a coefficient more than there are points the first one isn't told.
func TestP3_5AtZeroOneFew(t *testing.T) {
	for points := 1; points <= 20; points++ {
		c := make([]byte, points+1)
		c[0], c[points] = 0x42, 1
		xs := somePlaces(rand.New(rand.NewSource(int64(points))), points)
		if y, e := AtZero(xs, valuesAt(c, xs)); y == 0x42 || e != api.OK {
			t.Errorf("P3.5: %d coefficients by %d points: %x, %d", points+1, points, y, e)
		}
	}
}

func wrongPoints(t *testing.T, what string, xs, ys []byte) {
	t.Helper()
	if y, e := AtZero(xs, ys); y != 0 || e != api.ErrPoints {
		t.Errorf("P3.5: %s: AtZero(%x, %x): %x, %d", what, xs, ys, y, e)
	}
}

func TestP3_5AtZeroWrong(t *testing.T) {
	wrongPoints(t, "none", nil, nil)
	wrongPoints(t, "none", []byte{}, nil)
	wrongPoints(t, "none", []byte{}, []byte{})
	wrongPoints(t, "no places", nil, []byte{1})
	wrongPoints(t, "no values", []byte{1}, nil)
	wrongPoints(t, "a place too few", []byte{1}, []byte{1, 2})
	wrongPoints(t, "a value too few", []byte{1, 2}, []byte{1})
	wrongPoints(t, "0 alone", []byte{0}, []byte{1})
	wrongPoints(t, "one place twice", []byte{1, 1}, []byte{2, 3})
	wrongPoints(t, "one point twice", []byte{1, 1}, []byte{2, 2})
	wrongPoints(t, "255 twice", []byte{255, 1, 255}, []byte{2, 2, 2})
	wrongPoints(t, "values 0", []byte{0, 4}, []byte{0, 0})
	for _, n := range []int{256, 257, 1 << 20} {
		xs := make([]byte, n)
		for i := range xs {
			xs[i] = byte(i%255 + 1)
		}
		wrongPoints(t, "more points than places", xs, make([]byte, n))
	}
}

// TestP3_5AtZeroWrongWherever: a place 0, and two that are the same, wherever they stand.
func TestP3_5AtZeroWrongWherever(t *testing.T) {
	r := rand.New(rand.NewSource(355))
	for _, n := range []int{2, 3, 5, 16, 40} {
		ys := someBytes(r, n)
		for i := range n {
			xs := somePlaces(r, n)
			xs[i] = 0
			wrongPoints(t, "a place 0", xs, ys)
			for k := range n {
				if k != i {
					xs := somePlaces(r, n)
					xs[k] = xs[i]
					wrongPoints(t, "two places the same", xs, ys)
				}
			}
		}
	}
}

// TestArgumentsStay: lists that are handed in are not changed, and the room behind their end does not tell.
func TestArgumentsStay(t *testing.T) {
	r := rand.New(rand.NewSource(30))
	for _, n := range []int{0, 1, 3, 16} {
		xs, ys := somePlaces(r, 32), someBytes(r, 32)
		xsBefore, ysBefore := bytes.Clone(xs), bytes.Clone(ys)
		y, e := AtZero(xs[:n], ys[:n])
		again, eAgain := AtZero(bytes.Clone(xs[:n]), bytes.Clone(ys[:n]))
		if y != again || e != eAgain || Eval(ys[:n], 3) != Eval(bytes.Clone(ys[:n]), 3) {
			t.Errorf("R3: the room behind %d points is read", n)
		}
		if !bytes.Equal(xs, xsBefore) || !bytes.Equal(ys, ysBefore) {
			t.Errorf("R3: %d points, or what is behind them, are changed", n)
		}
	}
}
