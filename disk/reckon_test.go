package disk

import (
	"fmt"
	"slices"
	"testing"

	"ciborium/api"
)

// of is a sector all of whose bytes hang on b, each on its place too.
func of(b byte) (s api.Sector) {
	if b == 0 {
		return s
	}
	for j := range s {
		s[j] = b + byte(j)*7 + byte(j>>8)
	}
	return s
}

// some are n sectors, none like another and none zero, while n is below 2^16.
func some(n int) []api.Sector {
	l := make([]api.Sector, n)
	for i := range l {
		l[i] = of(byte(i%255 + 1))
		l[i][17], l[i][500] = byte(i>>8), byte(i)
	}
	return l
}

func made(t *testing.T, n int) *Disk {
	t.Helper()
	d, e := New(n)
	if e != api.OK || d == nil {
		t.Fatalf("P7.1: New(%d): %d", n, e)
	}
	return d
}

func loaded(t *testing.T, l []api.Sector) *Disk {
	t.Helper()
	d, e := Load(l)
	if e != api.OK || d == nil {
		t.Fatalf("P7.1: Load of %d: %d", len(l), e)
	}
	return d
}

// answers holds a call's error against what it must be.
func answers(t *testing.T, what string, got, want api.Errno) {
	t.Helper()
	if got != want {
		t.Errorf("%s: %d, not %d", what, got, want)
	}
}

// reads: sector i of d answers this, or, with an error, zero.
func reads(t *testing.T, d *Disk, i int, want api.Sector, err api.Errno) {
	t.Helper()
	if s, e := d.Read(i); s != want || e != err {
		t.Errorf("P7.2: sector %d: %x.., %d, not %x.., %d", i, s[:4], e, want[:4], err)
	}
}

func pends(t *testing.T, d *Disk, want ...int) {
	t.Helper()
	if got := d.Pending(); !slices.Equal(got, want) {
		t.Errorf("P7.6: pending: %v, not %v", got, want)
	}
}

func counts(t *testing.T, d *Disk, writes, flushes int) {
	t.Helper()
	if w, f := d.Counts(); w != writes || f != flushes {
		t.Errorf("P7.6: counts: %d, %d, not %d, %d", w, f, writes, flushes)
	}
}

// holds: flushed on d are the first bytes of these, sector by sector.
func holds(t *testing.T, d *Disk, want ...byte) {
	t.Helper()
	var l []api.Sector
	for _, b := range want {
		l = append(l, of(b))
	}
	if !slices.Equal(d.Sectors(), l) {
		t.Errorf("P7.6: flushed are not %d", want)
	}
}

// The fates of what was written.
const (
	waiting = iota
	stays
	lost
)

// written is a Write that was an operation, and what became of it.
type written struct {
	sector int
	what   api.Sector
	fate   int
}

// reckon is a disk as the chapter's words have it: all that was ever written to it, in a row.
type reckon struct {
	start           []api.Sector
	history         []written
	off             bool
	left            int // operations till the power goes, that one with them; 0: it does not
	writes, flushes int
}

// last is what the last Write to sector i of that fate wrote.
func (r *reckon) last(i, fate int) (api.Sector, bool) {
	for j := len(r.history) - 1; j >= 0; j-- {
		if w := r.history[j]; w.sector == i && w.fate == fate {
			return w.what, true
		}
	}
	return api.Sector{}, false
}

func (r *reckon) flushed(i int) api.Sector {
	if s, ok := r.last(i, stays); ok {
		return s
	}
	return r.start[i]
}

func (r *reckon) sectors() []api.Sector {
	var l []api.Sector
	for i := range r.start {
		l = append(l, r.flushed(i))
	}
	return l
}

func (r *reckon) pending() []int {
	var l []int
	for i := range r.start {
		if _, ok := r.last(i, waiting); ok {
			l = append(l, i)
		}
	}
	return l
}

func (r *reckon) read(i int) (api.Sector, api.Errno) {
	if r.off {
		return api.Sector{}, api.ErrDead
	}
	if i < 0 || i >= len(r.start) {
		return api.Sector{}, api.ErrArg
	}
	if s, ok := r.last(i, waiting); ok {
		return s, api.OK
	}
	return r.flushed(i), api.OK
}

// goes says whether the power goes at this operation.
func (r *reckon) goes() bool {
	if r.left == 0 {
		return false
	}
	r.left--
	r.off = r.left == 0
	return r.off
}

func (r *reckon) write(i int, s api.Sector) api.Errno {
	if r.off {
		return api.ErrDead
	}
	if i < 0 || i >= len(r.start) {
		return api.ErrArg
	}
	r.writes++
	r.history = append(r.history, written{i, s, waiting})
	if r.goes() {
		return api.ErrDead
	}
	return api.OK
}

func (r *reckon) flush() api.Errno {
	if r.off {
		return api.ErrDead
	}
	r.flushes++
	if r.goes() {
		return api.ErrDead
	}
	for j := range r.history {
		if r.history[j].fate == waiting {
			r.history[j].fate = stays
		}
	}
	return api.OK
}

func (r *reckon) arm(n int) api.Errno {
	if n < 0 {
		return api.ErrArg
	}
	r.left = n
	return api.OK
}

func (r *reckon) turnOff() { r.off, r.left = true, 0 }

func (r *reckon) turnOn(keep []int) api.Errno {
	if !r.off {
		return api.ErrOn
	}
	r.off = false
	for j := range r.history {
		if w := &r.history[j]; w.fate == waiting {
			w.fate = lost
			if slices.Contains(keep, w.sector) {
				w.fate = stays
			}
		}
	}
	return api.OK
}

// both is a disk, and what is reckoned of it.
type both struct {
	d *Disk
	r *reckon
}

func bothOf(t *testing.T, l []api.Sector) both {
	t.Helper()
	return both{loaded(t, l), &reckon{start: slices.Clone(l)}}
}

// step is something that is done to a disk.
type step struct {
	name string
	do   func(b both) (got, want api.Errno)
}

func writeStep(i int, c byte) step {
	return step{fmt.Sprintf("Write(%d, %d)", i, c), func(b both) (api.Errno, api.Errno) { return b.d.Write(i, of(c)), b.r.write(i, of(c)) }}
}

func flushStep() step {
	return step{"Flush", func(b both) (api.Errno, api.Errno) { return b.d.Flush(), b.r.flush() }}
}

func armStep(n int) step {
	return step{fmt.Sprintf("Arm(%d)", n), func(b both) (api.Errno, api.Errno) { return b.d.Arm(n), b.r.arm(n) }}
}

func offStep() step {
	return step{"Off", func(b both) (api.Errno, api.Errno) { b.d.Off(); b.r.turnOff(); return api.OK, api.OK }}
}

func onStep(keep ...int) step {
	return step{fmt.Sprintf("On(%v)", keep), func(b both) (api.Errno, api.Errno) { return b.d.On(keep), b.r.turnOn(keep) }}
}

// difference is in what the disk does not answer as is reckoned; empty if in nothing.
func (b both) difference() string {
	n := len(b.r.start)
	for i := -1; i <= n; i++ {
		got, e := b.d.Read(i)
		if want, err := b.r.read(i); got != want || e != err {
			return fmt.Sprintf("P7.2: Read(%d): %x.., %d, not %x.., %d", i, got[:4], e, want[:4], err)
		}
	}
	if got, want := b.d.Pending(), b.r.pending(); !slices.Equal(got, want) {
		return fmt.Sprintf("P7.6: Pending: %v, not %v", got, want)
	}
	if !slices.Equal(b.d.Sectors(), b.r.sectors()) {
		return "P7.6: Sectors"
	}
	if w, f := b.d.Counts(); w != b.r.writes || f != b.r.flushes {
		return fmt.Sprintf("P7.6: Counts: %d, %d, not %d, %d", w, f, b.r.writes, b.r.flushes)
	}
	if b.d.Size() != n || b.d.Dead() != b.r.off {
		return fmt.Sprintf("P7.6: Size, Dead: %d, %t, not %d, %t", b.d.Size(), b.d.Dead(), n, b.r.off)
	}
	return ""
}

// run does one step after another, and tells where the disk does not do as is reckoned.
func (b both) run(t *testing.T, steps ...step) {
	t.Helper()
	var done []string
	for _, s := range steps {
		done = append(done, s.name)
		if got, want := s.do(b); got != want {
			t.Fatalf("P7: %v: %d, not %d", done, got, want)
		}
		if what := b.difference(); what != "" {
			t.Fatalf("%s, behind %v", what, done)
		}
	}
}
