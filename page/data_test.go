package page

import (
	"math"
	"slices"
	"testing"

	"ciborium/api"
)

// strange are numbers that no page of so many has.
func strange(pages int) []int {
	return []int{pages, pages + 1, pages + 63, 3840 * 5, 64 * 300, 64*300 + 2, -1, -2, -64, -pages, 1 << 32, 1<<32 + 2, 1<<32 + 3, -1 << 32, -1<<32 + 2, math.MaxInt, math.MaxInt - 63, math.MinInt, math.MinInt + 2}
}

// gets: Get(n) answers this; with an error zeros.
func gets(t *testing.T, p *Pager, n int, want api.Page, err api.Errno) {
	t.Helper()
	if x, e := p.Get(n); x != want || e != err {
		t.Errorf("P9.3: Get(%d): %x.., %d, not %x.., %d", n, x[:6], e, want[:6], err)
	}
}

// takes: Take answers this.
func takes(t *testing.T, p *Pager, want int, err api.Errno) {
	t.Helper()
	if n, e := p.Take(); n != want || e != err {
		t.Errorf("P9.4: Take: %d, %d, not %d, %d", n, e, want, err)
	}
}

// changes: Changed answers this.
func changes(t *testing.T, p *Pager, want int, err api.Errno) {
	t.Helper()
	if n, e := p.Changed(); n != want || e != err {
		t.Errorf("P9.6: Changed: %d, %d, not %d, %d", n, e, want, err)
	}
}

// TestExamples: the chapter's table, row by row, on a log of 5 pages.
func TestExamples(t *testing.T) {
	d, l := logOf(t, 6, 5)
	if d.Size() != 13 {
		t.Fatalf("a disk of %d sectors", d.Size())
	}
	answers(t, "row 1: Make", Make(l), api.OK)
	p := pagerOn(t, l)
	if p.First() != 2 || p.Pages() != 5 || p.Free() != 3 {
		t.Errorf("row 1: %d, %d, %d", p.First(), p.Pages(), p.Free())
	}

	takes(t, p, 2, api.OK)
	takes(t, p, 3, api.OK)
	answers(t, "row 2: Put(2, A)", p.Put(2, of('A')), api.OK)
	answers(t, "row 2: Give(3)", p.Give(3), api.OK)
	takes(t, p, 3, api.OK)
	gets(t, p, 3, api.Page{}, api.OK)

	answers(t, "row 3: SetRoot(0, 2)", p.SetRoot(0, 2), api.OK)
	answers(t, "row 3: Give(2)", p.Give(2), api.ErrUsed)
	answers(t, "row 3: SetRoot(0, 4)", p.SetRoot(0, 4), api.ErrFree)
	answers(t, "row 3: SetRoot(8, 2)", p.SetRoot(8, 2), api.ErrArg)
	gets(t, p, 1, api.Page{}, api.ErrArg)
	gets(t, p, 4, api.Page{}, api.ErrFree)

	changes(t, p, 3, api.OK)
	answers(t, "row 4: Commit", p.Commit(), api.OK)
	changes(t, p, 0, api.OK)

	answers(t, "row 5: Put(2, B)", p.Put(2, of('B')), api.OK)
	answers(t, "row 5: Rollback", p.Rollback(), api.OK)
	gets(t, p, 2, of('A'), api.OK)
	if n, e := p.Root(0); n != 2 || e != api.OK {
		t.Errorf("row 5: Root(0): %d, %d", n, e)
	}

	takes(t, p, 4, api.OK)
	takes(t, p, 0, api.ErrFull)
}

// TestErrors: the numbers that the chapter gives.
func TestErrors(t *testing.T) {
	got := []api.Errno{api.ErrNil, api.ErrArg, api.ErrFull, api.ErrDead, api.ErrRot, api.ErrBig, api.ErrNoPages, api.ErrFree, api.ErrUsed}
	if !slices.Equal(got, []api.Errno{1, 2, 5, 6, 81, 82, 90, 91, 92}) {
		t.Errorf("errors: %v", got)
	}
	if api.Roots != 8 || api.PageBits != 3840 {
		t.Errorf("limits: %d, %d", api.Roots, api.PageBits)
	}
}

// TestP9_3GetPut: what was put is told, as often as one asks, and of the others what was there.
func TestP9_3GetPut(t *testing.T) {
	_, l, b := bothOf(t, 12, 10)
	lay(t, l, 2, of('a'), of('b'), of('c'))
	b.r.told[2], b.r.told[3], b.r.told[4] = of('a'), of('b'), of('c')
	for range 3 {
		b.take()
	}
	b.same("P9.3: taken, zeros stand there")
	b.put(3, of('B'))
	b.same("P9.3: put")
	b.put(2, of('A'))
	b.put(3, of('C'))
	b.same("P9.3: put over")
	b.commit()
	b.same("P9.3: committed")
	b.put(4, of('D'))
	b.put(4, api.Page{})
	b.same("P9.3: put over by zeros")
	b.put(2, of('E'))
	b.rollback()
	b.same("P9.3: rolled back")
	lay(t, l, 2, of('F'))
	b.r.told[2] = of('F')
	b.same("P9.3: what was not put is as the log tells it")
}

// TestP9_3Wrong: no data pages, pages that are not taken, a page that can't be read; in this order.
func TestP9_3Wrong(t *testing.T) {
	for _, pages := range []int{6, 3841} {
		d, l, p := pagerOf(t, 12, pages)
		first := p.First()
		for range 3 {
			p.Take()
		}
		answers(t, "Put", p.Put(first, of('a')), api.OK)
		answers(t, "Commit", p.Commit(), api.OK)
		for _, n := range append(strange(pages), upTo(0, first)...) {
			gets(t, p, n, api.Page{}, api.ErrArg)
			answers(t, "P9.3: Put of no data page", p.Put(n, of('x')), api.ErrArg)
		}
		gets(t, p, first+3, api.Page{}, map[bool]api.Errno{true: api.ErrArg, false: api.ErrFree}[first+3 == pages])
		answers(t, "Give", p.Give(first+1), api.OK)
		gets(t, p, first+1, api.Page{}, api.ErrFree)
		answers(t, "P9.3: Put of one that was given", p.Put(first+1, of('x')), api.ErrFree)
		changes(t, p, 1, api.OK)
		rot(t, d, l, first, first+1, first+2)
		gets(t, p, first, api.Page{}, api.ErrRot)
		gets(t, p, first+1, api.Page{}, api.ErrFree)
		gets(t, p, first+2, api.Page{}, api.ErrRot)
		answers(t, "P9.3: Put over a page that can't be read", p.Put(first+2, of('y')), api.OK)
		gets(t, p, first+2, of('y'), api.OK)
		gets(t, p, first, api.Page{}, api.ErrRot)
		answers(t, "Rollback", p.Rollback(), api.OK)
		gets(t, p, first+2, api.Page{}, api.ErrRot)
	}
}

// TestP9_3Dead: on a log that is dead what was put and taken is at hand, and the rest is not.
func TestP9_3Dead(t *testing.T) {
	d, l, b := bothOf(t, 12, 10)
	b.put(b.take(), of('a'))
	b.put(b.take(), of('b'))
	b.take()
	b.commit()
	answers(t, "wal.Checkpoint", l.Checkpoint(), api.OK)
	b.put(3, of('c'))
	n := b.take()
	d.Off()
	for range 2 {
		gets(t, b.p, 2, api.Page{}, api.ErrDead)
		gets(t, b.p, 3, of('c'), api.OK)
		gets(t, b.p, n, api.Page{}, api.OK)
		gets(t, b.p, 9, api.Page{}, api.ErrFree)
		gets(t, b.p, 10, api.Page{}, api.ErrArg)
		gets(t, b.p, 1, api.Page{}, api.ErrArg)
	}
	if l.Pages() != 0 {
		t.Error("the log is not dead")
	}
	b.put(2, of('d'))
	gets(t, b.p, 2, of('d'), api.OK)
	b.give(4)
	takes(t, b.p, 4, api.OK)
	gets(t, b.p, 4, api.Page{}, api.OK)
	b.setRoot(7, 2)
	if b.p.First() != 2 || b.p.Pages() != 10 || b.p.Free() != 4 || !b.p.Taken(5) || b.p.Taken(6) {
		t.Errorf("P9.7: on a log that is dead: %d, %d, %d", b.p.First(), b.p.Pages(), b.p.Free())
	}
	if r, e := b.p.Root(7); r != 2 || e != api.OK {
		t.Errorf("P9.5: on a log that is dead: %d, %d", r, e)
	}
}

// TestP9_4Take: the lowest that is free, and zeros in it, whatever stood there.
func TestP9_4Take(t *testing.T) {
	_, l, b := bothOf(t, 40, 12)
	for n := 2; n < 12; n++ {
		lay(t, l, n, of(byte(n)))
		b.r.told[n] = of(byte(n))
	}
	for range 10 {
		b.take()
		b.same("P9.4: Take")
	}
	takes(t, b.p, 0, api.ErrFull)
	takes(t, b.p, 0, api.ErrFull)
	b.same("P9.4: all are taken")
	b.commit()
	for _, n := range []int{7, 3, 11, 2} {
		b.put(n, of(byte(n)+100))
		b.give(n)
		b.same("P9.4: Give")
	}
	for range 5 {
		b.take()
		b.same("P9.4: Take of what was given")
	}
}

// TestP9_4Lowest: whichever of all pages is free is found, also where a word or a page of bits ends.
func TestP9_4Lowest(t *testing.T) {
	for _, pages := range []int{3, 63, 64, 65, 128, 129, 3840, 3841, 3905, 7680, 7681, 16374} {
		_, l := logOf(t, 8, pages)
		first := bitPagesOf(pages) + 1
		lay(t, l, 0, table(pages, upTo(first, pages))...)
		p := pagerOn(t, l)
		takes(t, p, 0, api.ErrFull)
		for n := first; n < pages; n++ {
			if pages > 200 && n%64 > 1 && n%64 < 63 && n < pages-2 {
				continue
			}
			answers(t, "P9.4: Give", p.Give(n), api.OK)
			if p.Free() != 1 || p.Taken(n) {
				t.Fatalf("P9.7: of %d pages, %d given: %d are free", pages, n, p.Free())
			}
			takes(t, p, n, api.OK)
			if p.Free() != 0 || !p.Taken(n) {
				t.Fatalf("P9.7: of %d pages, %d taken: %d are free", pages, n, p.Free())
			}
		}
		takes(t, p, 0, api.ErrFull)
	}
}

// TestP9_8AllRising: as many as Free says can be taken, one behind the other, rising.
func TestP9_8AllRising(t *testing.T) {
	for _, pages := range sizes {
		_, _, p := pagerOf(t, 8, pages)
		for n := p.First(); n < pages; n++ {
			if p.Free() != pages-n {
				t.Fatalf("P9.7: of %d pages, %d taken: %d are free", pages, n-p.First(), p.Free())
			}
			takes(t, p, n, api.OK)
		}
		takes(t, p, 0, api.ErrFull)
		if p.Free() != 0 {
			t.Errorf("P9.7: of %d pages, all taken: %d are free", pages, p.Free())
		}
		answers(t, "Rollback", p.Rollback(), api.OK)
		for n := pages - 1; n > 0 && n >= p.First(); n -= 7 {
			if p.Taken(n) {
				t.Errorf("P9.6: of %d pages: %d is taken behind a Rollback", pages, n)
			}
		}
	}
}

// TestP9_4GiveWrong: no data pages; ones that are not taken; roots, in whatever place.
func TestP9_4GiveWrong(t *testing.T) {
	_, _, b := bothOf(t, 20, 9)
	for range 5 {
		b.take()
	}
	for _, n := range append(strange(9), 0, 1) {
		answers(t, "P9.4: Give of no data page", b.p.Give(n), api.ErrArg)
	}
	for n := 7; n < 9; n++ {
		answers(t, "P9.4: Give of one that is not taken", b.p.Give(n), api.ErrFree)
	}
	b.give(6)
	answers(t, "P9.4: Give, twice", b.p.Give(6), api.ErrFree)
	for i := range 8 {
		b.setRoot(i, 3)
		b.setRoot((i+1)%8, 3)
		answers(t, "P9.4: Give of a root", b.p.Give(3), api.ErrUsed)
		b.setRoot(i, 0)
		answers(t, "P9.4: Give of a root of two", b.p.Give(3), api.ErrUsed)
		b.setRoot((i+1)%8, 4)
		b.same("P9.4: errors change nothing")
		b.give(3)
		b.take()
		b.setRoot((i+1)%8, 0)
	}
	b.setRoot(2, 5)
	b.commit()
	answers(t, "P9.4: Give of a root that was committed", b.p.Give(5), api.ErrUsed)
	b.setRoot(2, 0)
	b.give(5)
	b.same("P9.4: one that was a root")
	b.rollback()
	answers(t, "P9.4: Give of a root, rolled back", b.p.Give(5), api.ErrUsed)
	b.same("P9.4: rolled back")
}

// TestP9_4GivenIsGone: what was put into a page that is given back is not there any more, nor written.
func TestP9_4GivenIsGone(t *testing.T) {
	_, l, b := bothOf(t, 20, 9)
	b.put(b.take(), of('a'))
	b.give(2)
	changes(t, b.p, 0, api.OK)
	b.commit()
	if x, e := l.Read(2); x != (api.Page{}) || e != api.OK {
		t.Errorf("P9.6: a page that is not taken was written: %x..", x[:4])
	}
	b.put(b.take(), of('b'))
	b.commit()
	b.put(2, of('c'))
	b.give(2)
	b.take()
	b.same("P9.4: zeros stand in what was given and taken")
	changes(t, b.p, 1, api.OK)
	b.commit()
	logTells(t, "P9.6: given and taken", l, b.r)
	b.same("P9.6: given and taken")
}

// TestP9_5Roots: each is its own; two may be of one page.
func TestP9_5Roots(t *testing.T) {
	_, l, b := bothOf(t, 20, 12)
	for range 10 {
		b.take()
	}
	for i := range 8 {
		b.setRoot(i, 11-i)
		b.same("P9.5: SetRoot")
	}
	b.setRoot(3, 11)
	b.setRoot(4, 0)
	b.same("P9.5: SetRoot, anew")
	b.commit()
	b.same("P9.5: committed")
	logTells(t, "P9.5: committed", l, b.r)
	same(t, "P9.5: opened anew", pagerOn(t, l), b.r)
	for i := range 8 {
		b.setRoot(i, 0)
	}
	b.same("P9.5: all 0")
	b.rollback()
	b.same("P9.5: rolled back")
}

// TestP9_5Wrong: no roots, no data pages, pages that are not taken; in this order.
func TestP9_5Wrong(t *testing.T) {
	_, _, b := bothOf(t, 20, 9)
	b.take()
	b.setRoot(0, 2)
	for _, i := range []int{8, 9, -1, -8, 1 << 32, 1<<32 + 1, math.MaxInt, math.MinInt} {
		if n, e := b.p.Root(i); n != 0 || e != api.ErrArg {
			t.Errorf("P9.5: Root(%d): %d, %d", i, n, e)
		}
		for _, n := range append(strange(9), 0, 1, 2, 3) {
			answers(t, "P9.5: SetRoot of no root", b.p.SetRoot(i, n), api.ErrArg)
		}
	}
	for i := range 8 {
		for _, n := range append(strange(9), 1) {
			answers(t, "P9.5: SetRoot to no data page", b.p.SetRoot(i, n), api.ErrArg)
		}
		for n := 3; n < 9; n++ {
			answers(t, "P9.5: SetRoot to a page that is not taken", b.p.SetRoot(i, n), api.ErrFree)
		}
	}
	b.same("P9.5: errors change nothing")
}
