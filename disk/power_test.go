package disk

import (
	"math"
	"slices"
	"testing"

	"ciborium/api"
)

// operations are k of them: Writes, and Flushes where the letter is F; the last is the one at which the power must go.
func operations(t *testing.T, d *Disk, row string) {
	t.Helper()
	for j, c := range []byte(row) {
		want := api.OK
		if j == len(row)-1 {
			want = api.ErrDead
		}
		if d.Dead() {
			t.Fatalf("P7.5: %s: the power went ahead of operation %d", row, j+1)
		}
		var e api.Errno
		if c == 'F' {
			e = d.Flush()
		} else {
			e = d.Write(j%d.Size(), of(c))
		}
		answers(t, "P7.5: an operation of "+row, e, want)
	}
	if !d.Dead() {
		t.Errorf("P7.5: %s: the power did not go", row)
	}
}

// TestP7_5ArmJust: the power goes at just the operation that was said, be it a Write or a Flush.
func TestP7_5ArmJust(t *testing.T) {
	for _, row := range []string{"A", "F", "AB", "AF", "FA", "FF", "ABC", "ABF", "FFA", "FFF", "AFAFA", "AFAFF", "ABCDEFFFFFFFGHIJ"} {
		d := made(t, 3)
		answers(t, "P7.5: Arm", d.Arm(len(row)), api.OK)
		operations(t, d, row)
		// Behind it nothing is armed any more.
		answers(t, "P7.5: On", d.On(nil), api.OK)
		for range 2 * len(row) {
			answers(t, "P7.3: Write, nothing armed", d.Write(0, of('Z')), api.OK)
			answers(t, "P7.4: Flush, nothing armed", d.Flush(), api.OK)
		}
	}
}

// TestP7_3WriteAtTheEnd: what is written where the power goes is pending all the same, and counts.
func TestP7_3WriteAtTheEnd(t *testing.T) {
	for _, keep := range [][]int{{1}, nil} {
		d := made(t, 3)
		answers(t, "P7.5: Arm(1)", d.Arm(1), api.OK)
		answers(t, "P7.3: Write", d.Write(1, of('A')), api.ErrDead)
		if !d.Dead() {
			t.Errorf("P7.3: the power is on")
		}
		pends(t, d, 1)
		counts(t, d, 1, 0)
		holds(t, d, 0, 0, 0)
		answers(t, "P7.5: On", d.On(keep), api.OK)
		pends(t, d)
		if keep == nil {
			holds(t, d, 0, 0, 0)
		} else {
			holds(t, d, 0, 'A', 0)
		}
	}
}

// TestP7_3WriteOverAtTheEnd: also over what was pending before.
func TestP7_3WriteOverAtTheEnd(t *testing.T) {
	d := made(t, 2)
	answers(t, "P7.3: Write", d.Write(1, of('A')), api.OK)
	answers(t, "P7.5: Arm(1)", d.Arm(1), api.OK)
	answers(t, "P7.3: Write", d.Write(1, of('B')), api.ErrDead)
	answers(t, "P7.5: On", d.On([]int{1}), api.OK)
	holds(t, d, 0, 'B')
}

// TestP7_4FlushAtTheEnd: where the power goes at it, nothing is flushed, all is pending, and it counts.
func TestP7_4FlushAtTheEnd(t *testing.T) {
	d := made(t, 4)
	for _, i := range []int{3, 1, 0} {
		answers(t, "P7.3: Write", d.Write(i, of('A')), api.OK)
	}
	answers(t, "P7.5: Arm(1)", d.Arm(1), api.OK)
	answers(t, "P7.4: Flush", d.Flush(), api.ErrDead)
	if !d.Dead() {
		t.Errorf("P7.4: the power is on")
	}
	holds(t, d, 0, 0, 0, 0)
	pends(t, d, 0, 1, 3)
	counts(t, d, 3, 1)
	answers(t, "P7.5: On", d.On([]int{0, 3}), api.OK)
	holds(t, d, 'A', 0, 0, 'A')
}

// TestP7_5Arm0: with 0 nothing is armed, whatever was before.
func TestP7_5Arm0(t *testing.T) {
	for _, before := range []int{0, 1, 2, 5} {
		d := made(t, 2)
		answers(t, "P7.5: Arm", d.Arm(before), api.OK)
		answers(t, "P7.5: Arm(0)", d.Arm(0), api.OK)
		for range 20 {
			answers(t, "P7.3: Write", d.Write(0, of('A')), api.OK)
			answers(t, "P7.4: Flush", d.Flush(), api.OK)
		}
	}
}

// TestP7_5ArmWrong: below 0 nothing is changed, neither what was armed nor what was not.
func TestP7_5ArmWrong(t *testing.T) {
	for _, n := range []int{-1, -2, -1 << 32, math.MinInt, math.MinInt + 1} {
		d := made(t, 2)
		answers(t, "P7.5: Arm below 0", d.Arm(n), api.ErrArg)
		for range 9 {
			answers(t, "P7.4: Flush, nothing armed", d.Flush(), api.OK)
		}
		answers(t, "P7.5: Arm(3)", d.Arm(3), api.OK)
		answers(t, "P7.5: Arm below 0", d.Arm(n), api.ErrArg)
		answers(t, "P7.4: Flush", d.Flush(), api.OK)
		answers(t, "P7.5: Arm below 0", d.Arm(n), api.ErrArg)
		operations(t, d, "AB")
		answers(t, "P7.5: Arm below 0, the power off", d.Arm(n), api.ErrArg)
		if !d.Dead() {
			t.Errorf("P7.5: Arm(%d) turned the power on", n)
		}
	}
}

// TestP7_5ArmAgain: the later arming counts, from itself on.
func TestP7_5ArmAgain(t *testing.T) {
	for _, x := range []struct {
		first, done, second int
		row                 string
	}{
		{1, 0, 3, "ABF"}, {3, 0, 1, "F"}, {3, 2, 3, "AFB"}, {3, 2, 1, "F"}, {3, 1, 3, "FFF"}, {9, 4, 9, "ABCDEFGHI"}, {math.MaxInt, 3, 2, "AF"}, {2, 1, 2, "FA"},
	} {
		d := made(t, 2)
		answers(t, "P7.5: Arm", d.Arm(x.first), api.OK)
		for range x.done {
			answers(t, "P7.4: Flush", d.Flush(), api.OK)
		}
		answers(t, "P7.5: Arm again", d.Arm(x.second), api.OK)
		operations(t, d, x.row)
	}
}

// TestP7_5ArmMost: the greatest numbers that there are.
func TestP7_5ArmMost(t *testing.T) {
	for _, n := range []int{1 << 31, 1 << 32, 1<<32 + 1, math.MaxInt} {
		d := made(t, 2)
		answers(t, "P7.5: Arm", d.Arm(n), api.OK)
		for range 50 {
			answers(t, "P7.3: Write", d.Write(1, of('A')), api.OK)
			answers(t, "P7.4: Flush", d.Flush(), api.OK)
		}
	}
}

// TestP7_5ArmOff: while the power is off it is armed too; what is asked meanwhile is no operation.
func TestP7_5ArmOff(t *testing.T) {
	for _, row := range []string{"A", "F", "AF", "FFA"} {
		d := made(t, 2)
		d.Off()
		answers(t, "P7.5: Arm, the power off", d.Arm(len(row)), api.OK)
		if !d.Dead() {
			t.Errorf("P7.5: Arm turned the power on")
		}
		for range 5 {
			answers(t, "P7.3: Write, the power off", d.Write(0, of('A')), api.ErrDead)
			answers(t, "P7.4: Flush, the power off", d.Flush(), api.ErrDead)
			reads(t, d, 0, of(0), api.ErrDead)
		}
		answers(t, "P7.5: On", d.On(nil), api.OK)
		operations(t, d, row)
	}
}

// TestP7_5ArmOff0: what was armed while the power is off is so no more behind Arm(0), or another Off.
func TestP7_5ArmOff0(t *testing.T) {
	for _, undo := range []func(d *Disk){func(d *Disk) { d.Arm(0) }, func(d *Disk) { d.Off() }} {
		d := made(t, 2)
		d.Off()
		answers(t, "P7.5: Arm", d.Arm(1), api.OK)
		undo(d)
		answers(t, "P7.5: On", d.On(nil), api.OK)
		for range 5 {
			answers(t, "P7.3: Write", d.Write(0, of('A')), api.OK)
			answers(t, "P7.4: Flush", d.Flush(), api.OK)
		}
	}
}

// TestP7_5ArmOnWrong: an On that answers ErrOn leaves what is armed, and what is pending.
func TestP7_5ArmOnWrong(t *testing.T) {
	d := made(t, 2)
	answers(t, "P7.3: Write", d.Write(1, of('A')), api.OK)
	answers(t, "P7.5: Arm(2)", d.Arm(2), api.OK)
	for _, keep := range [][]int{nil, {}, {1}, {0, 1}, {-1, 2}} {
		answers(t, "P7.5: On, the power on", d.On(keep), api.ErrOn)
		pends(t, d, 1)
		holds(t, d, 0, 0)
		reads(t, d, 1, of('A'), api.OK)
		if d.Dead() {
			t.Errorf("P7.5: On(%v) turned the power off", keep)
		}
	}
	operations(t, d, "BF")
	counts(t, d, 2, 1)
}

// TestP7_5Off: what is pending stays so; what was armed is so no more; it is turned off once only.
func TestP7_5Off(t *testing.T) {
	d := loaded(t, []api.Sector{of(1), of(2), of(3)})
	answers(t, "P7.3: Write", d.Write(2, of('A')), api.OK)
	answers(t, "P7.5: Arm", d.Arm(1), api.OK)
	for range 3 {
		d.Off()
		if !d.Dead() {
			t.Errorf("P7.5: Off leaves the power on")
		}
		pends(t, d, 2)
		holds(t, d, 1, 2, 3)
		counts(t, d, 1, 0)
	}
	answers(t, "P7.5: On", d.On([]int{2}), api.OK)
	if d.Dead() {
		t.Errorf("P7.5: On leaves the power off")
	}
	holds(t, d, 1, 2, 'A')
	for range 5 {
		answers(t, "P7.4: Flush", d.Flush(), api.OK)
	}
}

// TestP7_5OnKeeps: just what keep names stays, in whatever order, however often, and whatever else stands there.
func TestP7_5OnKeeps(t *testing.T) {
	for _, x := range []struct {
		keep []int
		want []byte
	}{
		{nil, []byte{1, 2, 3, 4}},
		{[]int{}, []byte{1, 2, 3, 4}},
		{[]int{0}, []byte{'A', 2, 3, 4}},
		{[]int{3}, []byte{1, 2, 3, 'D'}},
		{[]int{0, 1, 3}, []byte{'A', 'B', 3, 'D'}},
		{[]int{3, 1, 0}, []byte{'A', 'B', 3, 'D'}},
		{[]int{1, 0, 1, 1, 0}, []byte{'A', 'B', 3, 4}},
		{[]int{2}, []byte{1, 2, 3, 4}},
		{[]int{2, 1, 2, 2}, []byte{1, 'B', 3, 4}},
		{[]int{4, 5, -1, math.MaxInt, math.MinInt, 1 << 32, 16384}, []byte{1, 2, 3, 4}},
		{[]int{-4, -3, -1, 1<<32 + 1, 3, 4, 8}, []byte{1, 2, 3, 'D'}},
		{[]int{0, 1, 2, 3, 4, 0, 1, 2, 3, 4}, []byte{'A', 'B', 3, 'D'}},
	} {
		d := loaded(t, []api.Sector{of(1), of(2), of(3), of(4)})
		for _, i := range []int{3, 0, 1} {
			answers(t, "P7.3: Write", d.Write(i, of(byte('A'+i))), api.OK)
		}
		d.Off()
		answers(t, "P7.5: On", d.On(x.keep), api.OK)
		holds(t, d, x.want...)
		pends(t, d)
		counts(t, d, 3, 0)
		for i, b := range x.want {
			reads(t, d, i, of(b), api.OK)
		}
		// What was lost does not come back.
		answers(t, "P7.4: Flush", d.Flush(), api.OK)
		d.Off()
		answers(t, "P7.5: On", d.On([]int{0, 1, 2, 3}), api.OK)
		holds(t, d, x.want...)
	}
}

// TestP7_5OnNothing: where nothing is pending, nothing is kept.
func TestP7_5OnNothing(t *testing.T) {
	d := loaded(t, some(3))
	d.Off()
	answers(t, "P7.5: On", d.On([]int{0, 1, 2, 3}), api.OK)
	if !slices.Equal(d.Sectors(), some(3)) {
		t.Errorf("P7.5: On changed what was flushed")
	}
	answers(t, "P7.5: On again", d.On([]int{0}), api.ErrOn)
}

// TestP7_5OnMany: a long list of numbers, most of which name nothing.
func TestP7_5OnMany(t *testing.T) {
	d := made(t, 16384)
	for i := range 16384 {
		answers(t, "P7.3: Write", d.Write(i, of('A')), api.OK)
	}
	d.Off()
	var keep []int
	for i := -20000; i < 40000; i += 2 {
		keep = append(keep, i)
	}
	answers(t, "P7.5: On", d.On(keep), api.OK)
	for i, s := range d.Sectors() {
		want := of(0)
		if i%2 == 0 {
			want = of('A')
		}
		if s != want {
			t.Fatalf("P7.5: sector %d is not what was kept", i)
		}
	}
}
