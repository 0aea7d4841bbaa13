package disk

import (
	"slices"
	"testing"

	"ciborium/api"
)

// ask asks all that only tells.
func ask(d *Disk) {
	for i := -1; i <= d.Size(); i++ {
		d.Read(i)
	}
	d.Size()
	d.Pending()
	d.Counts()
	d.Sectors()
	d.Dead()
}

// TestP7_6Off: all is told while the power is off, too, as it was ahead of it.
func TestP7_6Off(t *testing.T) {
	for _, armed := range []bool{false, true} {
		d := loaded(t, []api.Sector{of(1), of(2), of(3), of(4)})
		answers(t, "P7.3: Write", d.Write(2, of('C')), api.OK)
		answers(t, "P7.4: Flush", d.Flush(), api.OK)
		for _, i := range []int{3, 1} {
			answers(t, "P7.3: Write", d.Write(i, of('X')), api.OK)
		}
		want := 3
		if armed {
			answers(t, "P7.5: Arm", d.Arm(1), api.OK)
			answers(t, "P7.3: Write", d.Write(1, of('Y')), api.ErrDead)
			want = 4
		} else {
			d.Off()
		}
		for range 3 {
			if d.Size() != 4 || !d.Dead() {
				t.Errorf("P7.6: the power off: %d sectors, dead %t", d.Size(), d.Dead())
			}
			pends(t, d, 1, 3)
			counts(t, d, want, 1)
			holds(t, d, 1, 2, 'C', 4)
		}
	}
}

// TestP7_6Counts: a Write to no sector, and all that is asked with the power off, is not counted; neither On nor Off nor Arm starts them anew.
func TestP7_6Counts(t *testing.T) {
	d := made(t, 2)
	writes, flushes := 0, 0
	for range 4 {
		for _, i := range []int{0, 1, 1, 0, 2, -1} {
			if d.Write(i, of('A')) == api.OK {
				writes++
			}
		}
		answers(t, "P7.4: Flush", d.Flush(), api.OK)
		flushes++
		counts(t, d, writes, flushes)
		answers(t, "P7.5: Arm", d.Arm(2), api.OK)
		answers(t, "P7.4: Flush", d.Flush(), api.OK)
		answers(t, "P7.3: Write", d.Write(0, of('B')), api.ErrDead)
		writes, flushes = writes+1, flushes+1
		counts(t, d, writes, flushes)
		d.Write(0, of('C'))
		d.Flush()
		d.Off()
		counts(t, d, writes, flushes)
		answers(t, "P7.5: On", d.On([]int{0}), api.OK)
		counts(t, d, writes, flushes)
	}
	if writes != 20 || flushes != 8 {
		t.Errorf("P7.6: %d and %d operations", writes, flushes)
	}
}

// TestP7_6Pending: rising, none twice, in whatever order they were written.
func TestP7_6Pending(t *testing.T) {
	for _, order := range [][]int{{0}, {2, 1, 0}, {0, 1, 2}, {39, 0, 20, 10, 30, 5}, {7, 7, 3, 7, 3}, {39, 38, 37, 36, 35, 34, 33, 32, 31, 30, 29, 28}} {
		d := made(t, 40)
		for _, i := range order {
			answers(t, "P7.3: Write", d.Write(i, of('A')), api.OK)
		}
		want := slices.Clone(order)
		slices.Sort(want)
		pends(t, d, slices.Compact(want)...)
	}
}

// TestP7_6AskingChangesNothing: a row of steps ends alike, whatever is asked between.
func TestP7_6AskingChangesNothing(t *testing.T) {
	steps := []step{
		writeStep(1, 'A'), flushStep(), writeStep(1, 'B'), writeStep(3, 'C'), armStep(3), writeStep(0, 'D'), flushStep(), writeStep(2, 'E'),
		onStep(0, 2, 3), armStep(2), flushStep(), flushStep(), offStep(), armStep(1), onStep(1), writeStep(1, 'F'),
	}
	asked, left := bothOf(t, some(4)), bothOf(t, some(4))
	for j, s := range steps {
		ask(asked.d)
		got, want := s.do(asked)
		other, _ := s.do(left)
		ask(asked.d)
		if got != want || other != want {
			t.Errorf("P7.6: step %d, %s: %d where it was asked, %d where not, not %d", j, s.name, got, other, want)
		}
	}
	for _, b := range []both{asked, left} {
		if what := b.difference(); what != "" {
			t.Error(what)
		}
	}
}

// TestR4Nil: of no disk each call answers ErrNil, or nothing, whatever it is handed.
func TestR4Nil(t *testing.T) {
	var none *Disk
	for _, i := range append(strange(4), 0, 1) {
		reads(t, none, i, api.Sector{}, api.ErrNil)
		answers(t, "R4: Write", none.Write(i, of('A')), api.ErrNil)
		answers(t, "R4: Arm", none.Arm(i), api.ErrNil)
		answers(t, "R4: On", none.On([]int{i}), api.ErrNil)
	}
	answers(t, "R4: Flush", none.Flush(), api.ErrNil)
	answers(t, "R4: On", none.On(nil), api.ErrNil)
	none.Off()
	if none.Size() != 0 || none.Dead() || len(none.Pending()) != 0 || len(none.Sectors()) != 0 {
		t.Errorf("R4: of nil: %d, %t, %v, %d", none.Size(), none.Dead(), none.Pending(), len(none.Sectors()))
	}
	counts(t, none, 0, 0)
}

// roomy is l as the beginning of a list with room behind it, and the whole of that.
func roomy[T any](l []T, behind T) (piece, whole []T) {
	whole = slices.Clone(l)
	for range 20 {
		whole = append(whole, behind)
	}
	return whole[:len(l)], whole
}

// spoil writes over all of l, and the room behind it.
func spoil[T any](l []T, by T) {
	l = l[:cap(l)]
	for i := range l {
		l[i] = by
	}
}

// TestR3Load: what is handed to Load stays as it is, and is not kept.
func TestR3Load(t *testing.T) {
	for _, n := range []int{1, 3, 30} {
		l, whole := roomy(some(n), of(99))
		before := slices.Clone(whole)
		d := loaded(t, l)
		for i := range n {
			answers(t, "P7.3: Write", d.Write(i, of('A')), api.OK)
		}
		answers(t, "P7.4: Flush", d.Flush(), api.OK)
		if !slices.Equal(whole, before) {
			t.Errorf("R3: what was handed to Load of %d is written", n)
		}
		other := loaded(t, l)
		spoil(l, of('Z'))
		if !slices.Equal(other.Sectors(), some(n)) {
			t.Errorf("R3: a disk of %d hangs on what was handed to Load", n)
		}
		for i, s := range some(n) {
			reads(t, other, i, s, api.OK)
		}
	}
}

// TestR3On: what is handed to On stays as it is, in its order, and is not kept.
func TestR3On(t *testing.T) {
	for _, numbers := range [][]int{nil, {}, {2, 0, 2, 9, -1}, {1}, {2, 1, 0}} {
		d := made(t, 3)
		for i := range 3 {
			answers(t, "P7.3: Write", d.Write(i, of('A')), api.OK)
		}
		keep, whole := roomy(numbers, 1)
		before := slices.Clone(whole)
		answers(t, "P7.5: On, the power on", d.On(keep), api.ErrOn)
		d.Off()
		answers(t, "P7.5: On", d.On(keep), api.OK)
		if !slices.Equal(whole, before) {
			t.Errorf("R3: On(%v) writes what it is handed: %v", numbers, whole)
		}
		want := d.Sectors()
		spoil(keep, 0)
		for i := range 3 {
			answers(t, "P7.3: Write", d.Write(i, of('B')), api.OK)
		}
		d.Off()
		answers(t, "P7.5: On", d.On(nil), api.OK)
		if !slices.Equal(d.Sectors(), want) {
			t.Errorf("R3: what On(%v) was handed is asked again", numbers)
		}
	}
}

// TestR3Answers: what is told is the caller's own: written over, it changes nothing; and it stays while the disk goes on.
func TestR3Answers(t *testing.T) {
	b := bothOf(t, some(4))
	for _, s := range []step{writeStep(1, 'A'), writeStep(3, 'B'), flushStep(), writeStep(2, 'C'), writeStep(0, 'D'), offStep(), onStep(2), writeStep(3, 'E')} {
		sectors, pending := b.d.Sectors(), b.d.Pending()
		before, numbers := slices.Clone(sectors), slices.Clone(pending)
		first, _ := b.d.Read(0)
		kept := first
		b.run(t, s)
		if !slices.Equal(sectors, before) || !slices.Equal(pending, numbers) || first != kept {
			t.Errorf("R3: what was told ahead of %s changes with it", s.name)
		}
		spoil(b.d.Sectors(), of(99))
		spoil(b.d.Pending(), 77)
		got, _ := b.d.Read(3)
		got[5]++
		if what := b.difference(); what != "" {
			t.Errorf("R3: behind %s what is told is not the caller's own: %s", s.name, what)
		}
	}
}
