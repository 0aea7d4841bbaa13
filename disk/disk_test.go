package disk

import (
	"math"
	"slices"
	"testing"

	"ciborium/api"
)

// strange are numbers that no sector of a disk of n sectors has.
func strange(n int) []int {
	return []int{n, n + 1, -1, -n, 16384, 1 << 32, -1 << 32, 1<<32 + 1, math.MaxInt, math.MinInt}
}

// TestExamples: the chapter's table, row by row.
func TestExamples(t *testing.T) {
	d := made(t, 4)
	answers(t, "row 1: Write(1, A)", d.Write(1, of('A')), api.OK)
	reads(t, d, 1, of('A'), api.OK)
	pends(t, d, 1)
	holds(t, d, 0, 0, 0, 0)

	answers(t, "row 2: Flush", d.Flush(), api.OK)
	holds(t, d, 0, 'A', 0, 0)
	pends(t, d)

	answers(t, "row 3: Write(1, B)", d.Write(1, of('B')), api.OK)
	answers(t, "row 3: Write(2, C)", d.Write(2, of('C')), api.OK)
	d.Off()
	reads(t, d, 1, api.Sector{}, api.ErrDead)
	answers(t, "row 3: On(2, 2, 9)", d.On([]int{2, 2, 9}), api.OK)
	reads(t, d, 1, of('A'), api.OK)
	reads(t, d, 2, of('C'), api.OK)

	answers(t, "row 4: Arm(2)", d.Arm(2), api.OK)
	answers(t, "row 4: Write(0, D)", d.Write(0, of('D')), api.OK)
	answers(t, "row 4: Flush", d.Flush(), api.ErrDead)
	answers(t, "row 4: On(0)", d.On([]int{0}), api.OK)
	holds(t, d, 'D', 'A', 'C', 0)
	counts(t, d, 4, 2)

	answers(t, "row 5: Write(4, A)", d.Write(4, of('A')), api.ErrArg)
	answers(t, "row 5: Arm(-1)", d.Arm(-1), api.ErrArg)
	answers(t, "row 5: On()", d.On(nil), api.ErrOn)
	_, e := New(0)
	answers(t, "row 5: New(0)", e, api.ErrArg)
	_, e = Load(nil)
	answers(t, "row 5: Load(none)", e, api.ErrArg)

	var none *Disk
	answers(t, "row 6: Flush", none.Flush(), api.ErrNil)
	if none.Size() != 0 || len(none.Pending()) != 0 || none.Dead() {
		t.Errorf("row 6: of nil: %d, %v, %t", none.Size(), none.Pending(), none.Dead())
	}
}

// TestErrors: the numbers that the chapter names.
func TestErrors(t *testing.T) {
	for _, x := range []struct{ got, want api.Errno }{{api.ErrNil, 1}, {api.ErrArg, 2}, {api.ErrDead, 6}, {api.ErrOn, 70}} {
		answers(t, "an error's number", x.got, x.want)
	}
	if api.SectorBytes != 512 || len(api.Sector{}) != 512 || api.MaxSectors != 16384 {
		t.Errorf("P7.1: sectors have %d bytes, a disk at most %d of them", api.SectorBytes, api.MaxSectors)
	}
}

// TestP7_2Read: what is pending goes ahead of what is flushed, in its sector alone.
func TestP7_2Read(t *testing.T) {
	d := loaded(t, []api.Sector{of(1), of(2), of(3)})
	for i := range 3 {
		reads(t, d, i, of(byte(i+1)), api.OK)
	}
	answers(t, "P7.3: Write(1)", d.Write(1, of('A')), api.OK)
	reads(t, d, 0, of(1), api.OK)
	reads(t, d, 1, of('A'), api.OK)
	reads(t, d, 2, of(3), api.OK)
	answers(t, "P7.4: Flush", d.Flush(), api.OK)
	reads(t, d, 1, of('A'), api.OK)
	answers(t, "P7.3: Write(1)", d.Write(1, of(0)), api.OK)
	reads(t, d, 1, of(0), api.OK)
	holds(t, d, 1, 'A', 3)
}

// TestP7_2ReadWrong: no such sector, with the power on; with it off ErrDead goes ahead.
func TestP7_2ReadWrong(t *testing.T) {
	for _, n := range []int{1, 3, 16384} {
		d := loaded(t, some(n))
		for _, i := range strange(n) {
			if i >= 0 && i < n {
				continue
			}
			reads(t, d, i, api.Sector{}, api.ErrArg)
			d.Off()
			reads(t, d, i, api.Sector{}, api.ErrDead)
			reads(t, d, n-1, api.Sector{}, api.ErrDead)
			answers(t, "P7.5: On", d.On(nil), api.OK)
			reads(t, d, n-1, some(n)[n-1], api.OK)
		}
	}
}

// TestP7_2ReadDead: nothing is read while the power is off, neither what is pending nor what is flushed.
func TestP7_2ReadDead(t *testing.T) {
	d := loaded(t, some(3))
	answers(t, "P7.3: Write", d.Write(1, of('A')), api.OK)
	d.Off()
	for i := -1; i <= 3; i++ {
		reads(t, d, i, api.Sector{}, api.ErrDead)
	}
}

// TestP7_2ReadIsNoOperation: a Read is not counted, and the power does not go at it.
func TestP7_2ReadIsNoOperation(t *testing.T) {
	d := made(t, 2)
	answers(t, "P7.5: Arm(1)", d.Arm(1), api.OK)
	for range 5 {
		reads(t, d, 0, of(0), api.OK)
		reads(t, d, 2, of(0), api.ErrArg)
	}
	counts(t, d, 0, 0)
	answers(t, "P7.4: Flush", d.Flush(), api.ErrDead)
}

// TestP7_3WriteTwice: of what is written to one sector the later alone is pending.
func TestP7_3WriteTwice(t *testing.T) {
	for _, between := range []step{writeStep(1, 'X'), writeStep(0, 'B'), armStep(9)} {
		b := bothOf(t, some(2))
		b.run(t, writeStep(0, 'A'), between, writeStep(0, 'C'))
		reads(t, b.d, 0, of('C'), api.OK)
		b.run(t, flushStep())
		if b.d.Sectors()[0] != of('C') {
			t.Errorf("P7.3: the later Write is not what was flushed")
		}
	}
	b := bothOf(t, some(2))
	b.run(t, writeStep(0, 'A'), writeStep(0, 'B'))
	pends(t, b.d, 0)
	counts(t, b.d, 2, 0)
	b.run(t, offStep(), onStep(0))
	if b.d.Sectors()[0] != of('B') {
		t.Errorf("P7.3: the later Write is not what was kept")
	}
	b.run(t, writeStep(0, 'C'), writeStep(0, 'D'), offStep(), onStep(1))
	if b.d.Sectors()[0] != of('B') {
		t.Errorf("P7.3: of what was lost something stays")
	}
}

// TestP7_3WriteSame: what is flushed already, written again, is pending all the same.
func TestP7_3WriteSame(t *testing.T) {
	d := made(t, 2)
	answers(t, "P7.3: Write", d.Write(1, of(0)), api.OK)
	pends(t, d, 1)
	counts(t, d, 1, 0)
}

// TestP7_3WriteWrong: a Write to no sector does nothing, and is no operation; with the power off ErrDead goes ahead.
func TestP7_3WriteWrong(t *testing.T) {
	for _, n := range []int{1, 3, 16384} {
		d := loaded(t, some(n))
		answers(t, "P7.5: Arm(1)", d.Arm(1), api.OK)
		for _, i := range strange(n) {
			if i >= 0 && i < n {
				continue
			}
			answers(t, "P7.3: Write to no sector", d.Write(i, of('A')), api.ErrArg)
		}
		if d.Dead() || !slices.Equal(d.Sectors(), some(n)) {
			t.Errorf("P7.3: a Write to no sector of %d does something", n)
		}
		pends(t, d)
		counts(t, d, 0, 0)
		// The power goes at the first operation, which comes only now.
		answers(t, "P7.3: Write", d.Write(n-1, of('B')), api.ErrDead)
		for _, i := range strange(n) {
			answers(t, "P7.3: Write, the power off", d.Write(i, of('A')), api.ErrDead)
		}
		pends(t, d, n-1)
		counts(t, d, 1, 0)
	}
}

// TestP7_3WriteDead: with the power off nothing is written, and nothing counted.
func TestP7_3WriteDead(t *testing.T) {
	b := bothOf(t, some(3))
	b.run(t, writeStep(1, 'A'), offStep(), writeStep(1, 'B'), writeStep(0, 'B'), writeStep(3, 'B'))
	pends(t, b.d, 1)
	counts(t, b.d, 1, 0)
	b.run(t, onStep(0, 1, 2))
	if got := b.d.Sectors(); got[1] != of('A') || got[0] != some(3)[0] {
		t.Errorf("P7.3: something was written while the power was off")
	}
}

// TestP7_4Flush: all that is pending is flushed, and nothing else; also of nothing it is an operation.
func TestP7_4Flush(t *testing.T) {
	d := made(t, 5)
	answers(t, "P7.4: Flush of nothing", d.Flush(), api.OK)
	holds(t, d, 0, 0, 0, 0, 0)
	counts(t, d, 0, 1)
	for _, i := range []int{4, 0, 2} {
		answers(t, "P7.3: Write", d.Write(i, of(byte('A'+i))), api.OK)
	}
	holds(t, d, 0, 0, 0, 0, 0)
	pends(t, d, 0, 2, 4)
	answers(t, "P7.4: Flush", d.Flush(), api.OK)
	holds(t, d, 'A', 0, 'C', 0, 'E')
	pends(t, d)
	counts(t, d, 3, 2)
	answers(t, "P7.3: Write", d.Write(1, of('X')), api.OK)
	pends(t, d, 1)
	holds(t, d, 'A', 0, 'C', 0, 'E')
	answers(t, "P7.4: Flush", d.Flush(), api.OK)
	answers(t, "P7.4: Flush again", d.Flush(), api.OK)
	holds(t, d, 'A', 'X', 'C', 0, 'E')
	counts(t, d, 4, 4)
}

// TestP7_4FlushDead: with the power off nothing is flushed, and nothing counted.
func TestP7_4FlushDead(t *testing.T) {
	d := made(t, 2)
	answers(t, "P7.3: Write", d.Write(1, of('A')), api.OK)
	d.Off()
	answers(t, "P7.4: Flush, the power off", d.Flush(), api.ErrDead)
	answers(t, "P7.4: Flush, the power off", d.Flush(), api.ErrDead)
	holds(t, d, 0, 0)
	pends(t, d, 1)
	counts(t, d, 1, 0)
}

// TestP7_4FlushWhole: each sector of a disk of all sizes that may be, written backwards, and flushed.
func TestP7_4FlushWhole(t *testing.T) {
	for _, n := range []int{1, 100, 16384} {
		d, l := made(t, n), some(n)
		for i := n - 1; i >= 0; i-- {
			answers(t, "P7.3: Write", d.Write(i, l[i]), api.OK)
		}
		var all []int
		for i := range n {
			all = append(all, i)
		}
		pends(t, d, all...)
		if !slices.Equal(d.Sectors(), make([]api.Sector, n)) {
			t.Errorf("P7.3: what is written is flushed at once")
		}
		answers(t, "P7.4: Flush", d.Flush(), api.OK)
		pends(t, d)
		if !slices.Equal(d.Sectors(), l) {
			t.Errorf("P7.4: of %d sectors some are not flushed", n)
		}
		counts(t, d, n, 1)
	}
}
