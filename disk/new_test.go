package disk

import (
	"math"
	"slices"
	"testing"

	"ciborium/api"
)

// fresh: nothing is pending, the power is on, nothing is armed, both counts are 0, and flushed are these.
func fresh(t *testing.T, d *Disk, want []api.Sector) {
	t.Helper()
	if d.Size() != len(want) || !slices.Equal(d.Sectors(), want) {
		t.Errorf("P7.1: of %d sectors: %d, or other ones", len(want), d.Size())
	}
	pends(t, d)
	counts(t, d, 0, 0)
	if d.Dead() {
		t.Errorf("P7.1: the power of a new disk is off")
	}
	for _, i := range []int{0, len(want) / 2, len(want) - 1} {
		reads(t, d, i, want[i], api.OK)
	}
	reads(t, d, -1, api.Sector{}, api.ErrArg)
	reads(t, d, len(want), api.Sector{}, api.ErrArg)
	answers(t, "P7.1: On of a new disk", d.On([]int{0}), api.ErrOn)
	for range 300 {
		answers(t, "P7.1: Flush of a new disk, of which nothing is armed", d.Flush(), api.OK)
	}
	for i := range min(300, len(want)) {
		answers(t, "P7.1: Write to a new disk, of which nothing is armed", d.Write(i, of(9)), api.OK)
	}
}

func TestP7_1New(t *testing.T) {
	for _, n := range []int{1, 2, 3, 500, 16383, 16384} {
		fresh(t, made(t, n), make([]api.Sector, n))
	}
}

func TestP7_1NewWrong(t *testing.T) {
	for _, n := range []int{0, -1, -16384, 16385, 16386, 32768, 1 << 32, 1<<32 + 1, math.MaxInt32, math.MinInt32, math.MaxInt, math.MinInt} {
		if d, e := New(n); d != nil || e != api.ErrArg {
			t.Errorf("P7.1: New(%d): %v, %d", n, d != nil, e)
		}
	}
}

func TestP7_1Load(t *testing.T) {
	for _, n := range []int{1, 2, 3, 500, 16383, 16384} {
		l := some(n)
		fresh(t, loaded(t, l), slices.Clone(l))
	}
}

func TestP7_1LoadWrong(t *testing.T) {
	for _, l := range [][]api.Sector{nil, {}, make([]api.Sector, 0, 4), some(16385), some(16386), make([]api.Sector, 32768)} {
		if d, e := Load(l); d != nil || e != api.ErrArg {
			t.Errorf("P7.1: Load of %d: %v, %d", len(l), d != nil, e)
		}
	}
}

// TestP7_1Apart: what is done to one disk is not seen on another.
func TestP7_1Apart(t *testing.T) {
	l := some(3)
	a, b := loaded(t, l), loaded(t, l)
	c := made(t, 3)
	answers(t, "P7.3: Write", a.Write(0, of('A')), api.OK)
	answers(t, "P7.4: Flush", a.Flush(), api.OK)
	answers(t, "P7.3: Write", a.Write(1, of('B')), api.OK)
	answers(t, "P7.5: Arm", a.Arm(1), api.OK)
	fresh(t, b, some(3))
	fresh(t, c, make([]api.Sector, 3))
	a.Off()
	if b.Dead() || c.Dead() {
		t.Errorf("P7.5: one disk's power is another's")
	}
	pends(t, a, 1)
	counts(t, a, 2, 1)
}

// TestP7_1Again: a disk of what was flushed on another is as that one.
func TestP7_1Again(t *testing.T) {
	a := loaded(t, some(4))
	answers(t, "P7.3: Write", a.Write(1, of('A')), api.OK)
	answers(t, "P7.4: Flush", a.Flush(), api.OK)
	answers(t, "P7.3: Write", a.Write(2, of('B')), api.OK)
	a.Off()
	want := some(4)
	want[1] = of('A')
	fresh(t, loaded(t, a.Sectors()), want)
}
