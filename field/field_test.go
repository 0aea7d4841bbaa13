package field

import (
	"math"
	"math/bits"
	"math/rand"
	"testing"

	"ciborium/api"
)

// product is the chapter's words, step by step: the product of two polynomials, then what is left behind the long division.
func product(a, b byte) byte {
	var whole uint
	for i := range 8 {
		if b>>i&1 == 1 {
			whole ^= uint(a) << i
		}
	}
	for bits.Len(whole) > 8 {
		whole ^= 0x11b << (bits.Len(whole) - 9)
	}
	return byte(whole)
}

// inverse is found by trying; 0 where there is none.
func inverse(a byte) byte {
	for b := range 256 {
		if product(a, byte(b)) == 1 {
			return byte(b)
		}
	}
	return 0
}

// repeated is the product of n elements a, by squares.
func repeated(a byte, n uint64) byte {
	out := byte(1)
	for ; n > 0; n >>= 1 {
		if n&1 == 1 {
			out = product(out, a)
		}
		a = product(a, a)
	}
	return out
}

// power is what P3.3 says of Pow(a, n).
func power(a byte, n int) byte {
	if n < 0 {
		// As an unsigned number the least int has an opposite too.
		return repeated(inverse(a), -uint64(n))
	}
	return repeated(a, uint64(n))
}

// eachPair hands all pairs of elements to f.
func eachPair(f func(a, b byte)) {
	for a := range 256 {
		for b := range 256 {
			f(byte(a), byte(b))
		}
	}
}

func TestP3_1AddAndMul(t *testing.T) {
	for _, x := range []struct{ a, b, sum, product byte }{
		{0x57, 0x83, 0xd4, 0xc1},
		{0x57, 0x13, 0x44, 0xfe},
		{0x80, 0x02, 0x82, 0x1b},
		{0xff, 0xff, 0x00, 0x13},
		{0x00, 0xff, 0xff, 0x00},
		{0x01, 0xff, 0xfe, 0xff},
	} {
		if s, p := Add(x.a, x.b), Mul(x.a, x.b); s != x.sum || p != x.product {
			t.Errorf("P3.1: Add, Mul(%x, %x): %x, %x", x.a, x.b, s, p)
		}
	}
	eachPair(func(a, b byte) {
		// Bit by bit: the coefficients are added without carrying.
		for i := range 8 {
			if Add(a, b)>>i&1 != (a>>i+b>>i)&1 {
				t.Errorf("P3.1: Add(%x, %x): %x", a, b, Add(a, b))
			}
		}
		if Mul(a, b) != product(a, b) {
			t.Errorf("P3.1: Mul(%x, %x): %x, not %x", a, b, Mul(a, b), product(a, b))
		}
	})
}

// TestP3_1Laws: the laws of a field, over all elements.
func TestP3_1Laws(t *testing.T) {
	var sums, products [256][256]byte
	eachPair(func(a, b byte) { sums[a][b], products[a][b] = Add(a, b), Mul(a, b) })
	eachPair(func(a, b byte) {
		if sums[a][b] != sums[b][a] || products[a][b] != products[b][a] {
			t.Errorf("P3.1: %x and %x: the order tells", a, b)
		}
		if products[a][b] == 0 && a != 0 && b != 0 {
			t.Errorf("P3.1: Mul(%x, %x) is 0", a, b)
		}
		for c := range 256 {
			if sums[sums[a][b]][c] != sums[a][sums[b][c]] || products[products[a][b]][c] != products[a][products[b][c]] {
				t.Fatalf("P3.1: %x, %x, %x: the brackets tell", a, b, c)
			}
			if products[sums[a][b]][c] != sums[products[a][c]][products[b][c]] {
				t.Fatalf("P3.1: %x, %x, times %x: a sum's product is not the sum of the products", a, b, c)
			}
		}
	})
	for a := range 256 {
		if sums[a][0] != byte(a) || sums[a][a] != 0 || products[a][1] != byte(a) || products[a][0] != 0 {
			t.Errorf("P3.1: %x with 0, with itself, with 1", a)
		}
	}
}

func TestP3_1Inv(t *testing.T) {
	for _, x := range [][2]byte{{0x53, 0xca}, {0xca, 0x53}, {0, 0}, {1, 1}, {2, 0x8d}, {3, 0xf6}} {
		if got := Inv(x[0]); got != x[1] {
			t.Errorf("P3.1: Inv(%x): %x", x[0], got)
		}
	}
	for a := range 256 {
		if got := Inv(byte(a)); got != inverse(byte(a)) {
			t.Errorf("P3.1: Inv(%x): %x", a, got)
		}
		if a != 0 && Mul(byte(a), Inv(byte(a))) != 1 {
			t.Errorf("P3.1: %x times its inverse: %x", a, Mul(byte(a), Inv(byte(a))))
		}
	}
}

func TestP3_2Div(t *testing.T) {
	if c, e := Div(0xc1, 0x57); c != 0x83 || e != api.OK {
		t.Errorf("P3.2: Div(c1, 57): %x, %d", c, e)
	}
	eachPair(func(a, b byte) {
		c, e := Div(a, b)
		if b == 0 {
			if c != 0 || e != api.ErrZero {
				t.Errorf("P3.2: Div(%x, 0): %x, %d", a, c, e)
			}
			return
		}
		if e != api.OK || product(c, b) != a {
			t.Errorf("P3.2: Div(%x, %x): %x, %d", a, b, c, e)
		}
	})
}

func TestP3_3PowExamples(t *testing.T) {
	for _, x := range []struct {
		a    byte
		n    int
		want byte
	}{{3, 255, 1}, {0, 0, 1}, {0, -1, 0}, {2, 8, 0x1b}, {0x53, -1, 0xca}, {0x53, 1, 0x53}, {2, 7, 0x80}, {7, 0, 1}} {
		if got := Pow(x.a, x.n); got != x.want {
			t.Errorf("P3.3: Pow(%x, %d): %x", x.a, x.n, got)
		}
	}
}

// TestP3_3PowAll: all elements, to all powers from some rounds below 0 to some above it, one product behind the other.
func TestP3_3PowAll(t *testing.T) {
	for a := range 256 {
		up, down := byte(1), byte(1)
		for n := range 600 {
			if got := Pow(byte(a), n); got != up {
				t.Fatalf("P3.3: Pow(%x, %d): %x, not %x", a, n, got, up)
			}
			if got := Pow(byte(a), -n); got != down {
				t.Fatalf("P3.3: Pow(%x, -%d): %x, not %x", a, n, got, down)
			}
			up, down = product(up, byte(a)), product(down, inverse(byte(a)))
		}
	}
}

// TestP3_3PowFar: any int may be the power, the least and the greatest among them.
func TestP3_3PowFar(t *testing.T) {
	far := []int{math.MinInt, math.MaxInt, math.MinInt32, math.MaxInt32, math.MinInt32 - 1, math.MaxInt32 + 1}
	for d := range 256 {
		far = append(far, math.MinInt+d, math.MaxInt-d)
	}
	r := rand.New(rand.NewSource(3))
	for range 100 {
		far = append(far, int(r.Uint64()))
	}
	for a := range 256 {
		for _, n := range far {
			if got, want := Pow(byte(a), n), power(byte(a), n); got != want {
				t.Errorf("P3.3: Pow(%x, %d): %x, not %x", a, n, got, want)
			}
		}
	}
}

// TestP3_3PowLaws: powers added are products of powers, and the power 255 is 1, of all but 0.
func TestP3_3PowLaws(t *testing.T) {
	powers := []int{-1000, -511, -256, -255, -254, -17, -2, -1, 0, 1, 2, 5, 127, 254, 255, 256, 510, 1 << 40, -1 << 40}
	for i := 1; i < 256; i++ {
		a := byte(i)
		if Pow(a, 255) != 1 || Pow(a, -255) != 1 || Pow(a, 1) != a || Pow(a, -1) != Inv(a) {
			t.Errorf("P3.3: %x to the powers 255, -255, 1, -1", a)
		}
		for _, m := range powers {
			for _, n := range powers {
				if Pow(a, m+n) != Mul(Pow(a, m), Pow(a, n)) {
					t.Errorf("P3.3: Pow(%x, %d and %d)", a, m, n)
				}
			}
		}
	}
}

func TestPowersOf3(t *testing.T) {
	var seen [256]bool
	want, count := byte(1), 0
	for n, p := range powersOf3 {
		if n != count || p != want || p == 0 || seen[p] {
			t.Errorf("P3.3: power %d of 3: %d, %x", count, n, p)
		}
		seen[p] = true
		want = product(want, 3)
		count++
	}
	if count != 255 || want != 1 {
		t.Errorf("P3.3: there are %d powers of 3", count)
	}
	for n := range powersOf3 {
		if n == 4 {
			break
		}
		if n > 4 {
			t.Fatalf("P3.3: the powers go on when nobody wants them")
		}
	}
}
