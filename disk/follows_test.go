package disk

import (
	"math/rand"
	"slices"
	"testing"

	"ciborium/api"
)

// TestP7AllRows: all rows of four steps, behind a Write, on a disk of two sectors.
func TestP7AllRows(t *testing.T) {
	kinds := []step{
		writeStep(0, 'A'), writeStep(1, 'B'), writeStep(1, 'C'), writeStep(2, 'D'), flushStep(),
		armStep(0), armStep(1), armStep(2), armStep(3), offStep(), onStep(), onStep(0), onStep(1, 2, 1),
	}
	n := len(kinds)
	for row := range n * n * n * n {
		steps := []step{writeStep(0, 'Z')}
		for rest := row; len(steps) < 5; rest /= n {
			steps = append(steps, kinds[rest%n])
		}
		bothOf(t, []api.Sector{of(1), of(2)}).run(t, steps...)
	}
}

// anyStep is one that is drawn, on a disk of n sectors, some of them with what can't be.
func anyStep(r *rand.Rand, n int) step {
	sector := func() int { return r.Intn(n+2) - 1 }
	switch k := r.Intn(20); {
	case k < 9:
		return writeStep(sector(), byte(r.Intn(256)))
	case k < 12:
		return flushStep()
	case k < 14:
		return armStep(r.Intn(12) - 1)
	case k < 15:
		return offStep()
	}
	var keep []int
	for range r.Intn(2 * n) {
		keep = append(keep, sector())
	}
	return onStep(keep...)
}

// TestP7AnyRows: long rows that are drawn, on disks of some sizes.
func TestP7AnyRows(t *testing.T) {
	r := rand.New(rand.NewSource(7))
	for range 150 {
		n := r.Intn(9) + 1
		b := bothOf(t, some(n))
		for range 4 {
			var steps []step
			for range 25 {
				steps = append(steps, anyStep(r, n))
			}
			b.run(t, steps...)
		}
	}
}

// seen is what a disk told of itself ahead of a step.
type seen struct {
	flushed []api.Sector
	pending []int
	off     bool
}

func look(d *Disk) seen { return seen{d.Sectors(), d.Pending(), d.Dead()} }

// TestP7_7Stays: what is flushed changes by a Flush, or by On in what it is told to keep, and only where something was pending; behind them each sector is whole: what was flushed, or what was written last.
func TestP7_7Stays(t *testing.T) {
	r := rand.New(rand.NewSource(77))
	for range 60 {
		n := r.Intn(6) + 1
		d, last := loaded(t, some(n)), make([]api.Sector, n)
		for range 120 {
			before := look(d)
			kept := []int(nil)
			switch k := r.Intn(12); {
			case k < 6:
				i, s := r.Intn(n), of(byte(r.Intn(256)))
				d.Write(i, s)
				if !before.off {
					last[i] = s
				}
			case k < 8:
				if d.Flush() == api.OK {
					kept = before.pending
				}
			case k < 9:
				d.Arm(r.Intn(6))
			case k < 10:
				d.Off()
			default:
				keep := r.Perm(n)[:r.Intn(n+1)]
				if d.On(keep) == api.OK {
					kept = slices.DeleteFunc(keep, func(i int) bool { return !slices.Contains(before.pending, i) })
				}
			}
			wholeBehind(t, d, before, kept, last)
		}
	}
}

// wholeBehind: of d, which was as before, just the sectors kept have what was written to them last, and all others what was flushed.
func wholeBehind(t *testing.T, d *Disk, before seen, kept []int, last []api.Sector) {
	t.Helper()
	for i, s := range d.Sectors() {
		want := before.flushed[i]
		if slices.Contains(kept, i) {
			want = last[i]
		}
		if s != want {
			t.Fatalf("P7.7: sector %d: %x.., not %x..", i, s[:4], want[:4])
		}
	}
	if !before.off || d.Dead() {
		return
	}
	for i := range last {
		s, e := d.Read(i)
		if e != api.OK || s != before.flushed[i] && (s != last[i] || !slices.Contains(before.pending, i)) {
			t.Fatalf("P7.7: behind On sector %d has %x.., %d", i, s[:4], e)
		}
	}
}

// TestP7_7Often: however often the power goes, what is flushed stays, and so it is of what comes then.
func TestP7_7Often(t *testing.T) {
	d := loaded(t, []api.Sector{of(1), of(2)})
	answers(t, "P7.3: Write", d.Write(0, of('A')), api.OK)
	answers(t, "P7.4: Flush", d.Flush(), api.OK)
	for k := 1; k < 30; k++ {
		answers(t, "P7.5: Arm", d.Arm(k), api.OK)
		for j := range k {
			if d.Dead() {
				t.Fatalf("P7.5: Arm(%d): the power went behind %d operations", k, j)
			}
			d.Write(0, of(byte(k)))
		}
		answers(t, "P7.5: On", d.On([]int{1}), api.OK)
		holds(t, d, 'A', 2)
		reads(t, d, 0, of('A'), api.OK)
	}
	answers(t, "P7.3: Write", d.Write(0, of('B')), api.OK)
	answers(t, "P7.5: Arm", d.Arm(1), api.OK)
	answers(t, "P7.4: Flush", d.Flush(), api.ErrDead)
	answers(t, "P7.5: On", d.On([]int{0}), api.OK)
	holds(t, d, 'B', 2)
	d.Off()
	answers(t, "P7.5: On", d.On(nil), api.OK)
	holds(t, d, 'B', 2)
}

// TestP7_7Subsets: of four sectors that are pending each subset may stay.
func TestP7_7Subsets(t *testing.T) {
	for subset := range 16 {
		d := loaded(t, []api.Sector{of(1), of(2), of(3), of(4)})
		want, keep := []byte{1, 2, 3, 4}, []int(nil)
		for i := range 4 {
			answers(t, "P7.3: Write", d.Write(i, of(byte('A'+i))), api.OK)
			if subset>>i&1 != 0 {
				keep = append(keep, i)
				want[i] = byte('A' + i)
			}
		}
		answers(t, "P7.5: Arm", d.Arm(1), api.OK)
		answers(t, "P7.4: Flush", d.Flush(), api.ErrDead)
		answers(t, "P7.5: On", d.On(keep), api.OK)
		holds(t, d, want...)
	}
}

// TestR5Same: two disks to which the same was done tell the same.
func TestR5Same(t *testing.T) {
	for seed := range int64(20) {
		r := rand.New(rand.NewSource(seed))
		one, other := bothOf(t, some(8)), bothOf(t, some(8))
		for range 100 {
			s := anyStep(r, 8)
			a, _ := s.do(one)
			b, _ := s.do(other)
			if x, y := look(one.d), look(other.d); a != b || x.off != y.off || !slices.Equal(x.pending, y.pending) || !slices.Equal(x.flushed, y.flushed) {
				t.Fatalf("R5: behind %s two disks differ", s.name)
			}
		}
	}
}
