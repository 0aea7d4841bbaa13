package page

import (
	"encoding/binary"
	"fmt"
	"maps"
	"math"
	"slices"
	"testing"

	"ciborium/api"
	"ciborium/disk"
	"ciborium/wal"
)

// of is a page all of whose bytes hang on b, each on its place too; of 0 zeros.
func of(b byte) (x api.Page) {
	if b == 0 {
		return x
	}
	for j := range x {
		x[j] = b + byte(j)*5 + byte(j>>8)
	}
	return x
}

// answers holds a call's error against what it must be.
func answers(t *testing.T, what string, got, want api.Errno) {
	t.Helper()
	if got != want {
		t.Errorf("%s: %d, not %d", what, got, want)
	}
}

// logOf is a disk with a log of so many sectors, and so many pages.
func logOf(t *testing.T, log, pages int) (*disk.Disk, *wal.Log) {
	t.Helper()
	d, e := disk.New(2 + log + pages)
	if e != api.OK {
		t.Fatalf("disk.New(%d): %d", 2+log+pages, e)
	}
	answers(t, "wal.Format", wal.Format(d, log), api.OK)
	return d, logOn(t, d)
}

func logOn(t *testing.T, d *disk.Disk) *wal.Log {
	t.Helper()
	l, e := wal.Open(d)
	if e != api.OK {
		t.Fatalf("wal.Open: %d", e)
	}
	return l
}

// pagerOf is a pager of which no data page is taken.
func pagerOf(t *testing.T, log, pages int) (*disk.Disk, *wal.Log, *Pager) {
	t.Helper()
	d, l := logOf(t, log, pages)
	answers(t, "P9.1: Make", Make(l), api.OK)
	return d, l, pagerOn(t, l)
}

func pagerOn(t *testing.T, l *wal.Log) *Pager {
	t.Helper()
	p, e := Open(l)
	if e != api.OK || p == nil {
		t.Fatalf("P9.2: Open: %d", e)
	}
	return p
}

// home is the sector in which page n stands.
func home(l *wal.Log, d *disk.Disk, n int) int { return d.Size() - l.Pages() + n }

// rot makes the homes of pages such as no log has; the pages are brought home first.
func rot(t *testing.T, d *disk.Disk, l *wal.Log, pages ...int) {
	t.Helper()
	answers(t, "wal.Checkpoint", l.Checkpoint(), api.OK)
	for _, n := range pages {
		answers(t, "disk.Write", d.Write(home(l, d, n), api.Sector{}), api.OK)
	}
	answers(t, "disk.Flush", d.Flush(), api.OK)
}

// lay puts pages on a log, one behind the other, from first on.
func lay(t *testing.T, l *wal.Log, first int, all ...api.Page) {
	t.Helper()
	for k, x := range all {
		answers(t, "wal.Commit", l.Commit([]api.Image{{Page: first + k, Data: x}}), api.OK)
	}
}

// upTo are the numbers from a to b - 1.
func upTo(a, b int) []int {
	var all []int
	for n := a; n < b; n++ {
		all = append(all, n)
	}
	return all
}

// bitPagesOf is the chapter's B of H.
func bitPagesOf(pages int) int { return int(math.Ceil(float64(pages) / 3840)) }

// table is the pages 0 to B as the chapter's table has them, these data pages being taken.
func table(pages int, taken []int, roots ...int) []api.Page {
	b := []byte{0x70, 0x61, 0x67, 0x65}
	for i := range 8 {
		r := 0
		if i < len(roots) {
			r = roots[i]
		}
		b = binary.BigEndian.AppendUint32(b, uint32(r))
	}
	all := make([]api.Page, 1+bitPagesOf(pages))
	copy(all[0][:], b)
	for _, p := range append(upTo(0, len(all)), taken...) {
		x := &all[1+p/3840]
		x[p%3840/8] |= byte(math.Pow(2, float64(p%8)))
	}
	return all
}

// state is what a Commit makes last, but what stands in data pages.
type state struct {
	taken map[int]bool
	roots [8]int
}

func (s state) copy() state { return state{maps.Clone(s.taken), s.roots} }

// reckon is a pager as the chapter's words have it, on a log of which it knows all pages.
type reckon struct {
	pages, most int
	told        []api.Page
	rotten      map[int]bool
	last, now   state
	at          map[int]api.Page
}

// reckonOf is the reckoning of a fresh pager.
func reckonOf(log, pages int) *reckon {
	r := &reckon{pages: pages, most: min(120, log-2), told: make([]api.Page, pages), rotten: map[int]bool{}}
	copy(r.told, table(pages, nil))
	r.rollback()
	return r
}

func (r *reckon) copy() *reckon {
	c := *r
	c.told, c.rotten, c.at = slices.Clone(r.told), maps.Clone(r.rotten), maps.Clone(r.at)
	c.last, c.now = r.last.copy(), r.now.copy()
	return &c
}

func (r *reckon) first() int { return bitPagesOf(r.pages) + 1 }

func (r *reckon) data(n int) bool { return n >= r.first() && n < r.pages }

func (r *reckon) free() []int {
	return slices.DeleteFunc(upTo(r.first(), r.pages), func(n int) bool { return r.now.taken[n] })
}

func (r *reckon) isTaken(n int) bool { return n >= 0 && n < r.first() || r.now.taken[n] }

func (r *reckon) asked(n int) api.Errno {
	if !r.data(n) {
		return api.ErrArg
	}
	if !r.now.taken[n] {
		return api.ErrFree
	}
	return api.OK
}

func (r *reckon) get(n int) (api.Page, api.Errno) {
	if e := r.asked(n); e != api.OK {
		return api.Page{}, e
	}
	if x, ok := r.at[n]; ok {
		return x, api.OK
	}
	if r.rotten[n] {
		return api.Page{}, api.ErrRot
	}
	return r.told[n], api.OK
}

func (r *reckon) put(n int, x api.Page) api.Errno {
	e := r.asked(n)
	if e == api.OK {
		r.at[n] = x
	}
	return e
}

func (r *reckon) take() (int, api.Errno) {
	all := r.free()
	if len(all) == 0 {
		return 0, api.ErrFull
	}
	r.now.taken[all[0]] = true
	r.at[all[0]] = api.Page{}
	return all[0], api.OK
}

func (r *reckon) give(n int) api.Errno {
	if e := r.asked(n); e != api.OK {
		return e
	}
	for _, root := range r.now.roots {
		if root == n {
			return api.ErrUsed
		}
	}
	delete(r.now.taken, n)
	return api.OK
}

func (r *reckon) root(i int) (int, api.Errno) {
	if i < 0 || i > 7 {
		return 0, api.ErrArg
	}
	return r.now.roots[i], api.OK
}

func (r *reckon) setRoot(i, n int) api.Errno {
	if i < 0 || i > 7 || n != 0 && !r.data(n) {
		return api.ErrArg
	}
	if n != 0 && !r.now.taken[n] {
		return api.ErrFree
	}
	r.now.roots[i] = n
	return api.OK
}

func (r *reckon) tables(s state) []api.Page {
	return table(r.pages, slices.Collect(maps.Keys(s.taken)), s.roots[:]...)
}

// changed is the pages that a Commit writes.
func (r *reckon) changed() (map[int]api.Page, api.Errno) {
	w := map[int]api.Page{}
	was := r.tables(r.last)
	for n, x := range r.tables(r.now) {
		if x != was[n] {
			w[n] = x
		}
	}
	for n, x := range r.at {
		if !r.now.taken[n] {
			continue
		}
		if r.rotten[n] {
			return nil, api.ErrRot
		}
		if x != r.told[n] {
			w[n] = x
		}
	}
	return w, api.OK
}

func (r *reckon) commit() api.Errno {
	w, e := r.changed()
	if e != api.OK {
		return e
	}
	if len(w) > r.most {
		return api.ErrBig
	}
	for n, x := range w {
		r.told[n] = x
		delete(r.rotten, n)
	}
	r.last = r.now.copy()
	r.at = map[int]api.Page{}
	return api.OK
}

func (r *reckon) rollback() {
	if r.last.taken == nil {
		r.last.taken = map[int]bool{}
	}
	r.now = r.last.copy()
	r.at = map[int]api.Page{}
}

// difference is in what a pager is not as is reckoned; empty, if in nothing.
func difference(p *Pager, r *reckon) string {
	if p.First() != r.first() || p.Pages() != r.pages || p.Free() != len(r.free()) {
		return fmt.Sprintf("P9.7: First, Pages, Free: %d, %d, %d, not %d, %d, %d", p.First(), p.Pages(), p.Free(), r.first(), r.pages, len(r.free()))
	}
	for n := -2; n < r.pages+3; n++ {
		if p.Taken(n) != r.isTaken(n) {
			return fmt.Sprintf("P9.7: Taken(%d): %t", n, p.Taken(n))
		}
		got, e := p.Get(n)
		if want, err := r.get(n); got != want || e != err {
			return fmt.Sprintf("P9.3: Get(%d): %x.., %d, not %x.., %d", n, got[:4], e, want[:4], err)
		}
	}
	for i := -2; i < 10; i++ {
		got, e := p.Root(i)
		if want, err := r.root(i); got != want || e != err {
			return fmt.Sprintf("P9.5: Root(%d): %d, %d, not %d, %d", i, got, e, want, err)
		}
	}
	got, e := p.Changed()
	if want, err := r.changed(); got != len(want) || e != err {
		return fmt.Sprintf("P9.6: Changed: %d, %d, not %d, %d", got, e, len(want), err)
	}
	return ""
}

func same(t *testing.T, what string, p *Pager, r *reckon) {
	t.Helper()
	if s := difference(p, r); s != "" {
		t.Fatalf("%s: %s", what, s)
	}
}

// logTells: the log tells what is reckoned that it does.
func logTells(t *testing.T, what string, l *wal.Log, r *reckon) {
	t.Helper()
	for n := range r.pages {
		x, e := l.Read(n)
		if r.rotten[n] {
			answers(t, what+": a page that is rotten", e, api.ErrRot)
		} else if x != r.told[n] || e != api.OK {
			t.Fatalf("%s: in page %d of the log stands %x.., %d, not %x..", what, n, x[:8], e, r.told[n][:8])
		}
	}
}

// both is a pager and its reckoning, of which the same is asked.
type both struct {
	t *testing.T
	p *Pager
	r *reckon
}

func (b both) is(what string, got, want api.Errno) {
	b.t.Helper()
	answers(b.t, what, got, want)
}

func (b both) take() int {
	b.t.Helper()
	n, e := b.p.Take()
	want, err := b.r.take()
	if n != want || e != err {
		b.t.Errorf("P9.4: Take: %d, %d, not %d, %d", n, e, want, err)
	}
	return n
}

func (b both) put(n int, x api.Page) {
	b.t.Helper()
	b.is(fmt.Sprintf("P9.3: Put(%d)", n), b.p.Put(n, x), b.r.put(n, x))
}

func (b both) give(n int) {
	b.t.Helper()
	b.is(fmt.Sprintf("P9.4: Give(%d)", n), b.p.Give(n), b.r.give(n))
}

func (b both) setRoot(i, n int) {
	b.t.Helper()
	b.is(fmt.Sprintf("P9.5: SetRoot(%d, %d)", i, n), b.p.SetRoot(i, n), b.r.setRoot(i, n))
}

func (b both) commit() {
	b.t.Helper()
	b.is("P9.6: Commit", b.p.Commit(), b.r.commit())
}

func (b both) rollback() {
	b.t.Helper()
	b.is("P9.6: Rollback", b.p.Rollback(), api.OK)
	b.r.rollback()
}

func (b both) same(what string) {
	b.t.Helper()
	same(b.t, what, b.p, b.r)
}

// bothOf is a fresh pager, on a log of so many sectors and pages.
func bothOf(t *testing.T, log, pages int) (*disk.Disk, *wal.Log, both) {
	t.Helper()
	d, l, p := pagerOf(t, log, pages)
	return d, l, both{t, p, reckonOf(log, pages)}
}
