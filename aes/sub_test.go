package aes

import (
	"testing"

	"ciborium/field"
)

func TestP5_1SubExamples(t *testing.T) {
	for _, x := range [][2]byte{{0x00, 0x63}, {0x53, 0xed}, {0x01, 0x7c}, {0xff, 0x16}, {0x52, 0x00}} {
		if got := sub(x[0]); got != x[1] {
			t.Errorf("P5.1: sub(%x): %x, not %x", x[0], got, x[1])
		}
		if got := unsub(x[1]); got != x[0] {
			t.Errorf("P5.3: unsub(%x): %x, not %x", x[1], got, x[0])
		}
	}
}

// TestP5_1SubAll: the tables hold just what the rule says, of every byte.
func TestP5_1SubAll(t *testing.T) {
	var seen [256]bool
	for i := range 256 {
		x := byte(i)
		y := sub(x)
		if y != wantSub(x) {
			t.Errorf("P5.1: sub(%x): %x, not %x", x, y, wantSub(x))
		}
		if y == x || seen[y] {
			t.Errorf("P5.1: sub(%x): %x, which is itself, or is told of another byte too", x, y)
		}
		seen[y] = true
		if unsub(y) != x || sub(unsub(x)) != x {
			t.Errorf("P5.3: unsub(%x): %x; sub of unsub(%x): %x", y, unsub(y), x, sub(unsub(x)))
		}
	}
	if len(subs) != 256 || len(unsubs) != 256 {
		t.Errorf("P5.1: the tables have %d and %d bytes", len(subs), len(unsubs))
	}
}

// TestP5_1SubField: the tables go with package field, on which the layer stands.
func TestP5_1SubField(t *testing.T) {
	for i := range 256 {
		y := field.Inv(byte(i))
		// A byte turned by n bits has at i the bit i - n.
		want := byte(0x63)
		for _, n := range []int{0, 1, 2, 3, 4} {
			want ^= y<<n | y>>(8-n)
		}
		if sub(byte(i)) != want {
			t.Errorf("P5.1: sub(%x): %x, not %x", i, sub(byte(i)), want)
		}
	}
}
