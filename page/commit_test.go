package page

import (
	"slices"
	"testing"

	"ciborium/api"
)

// TestP9_6Changed: row by row what is changed, and what is not.
func TestP9_6Changed(t *testing.T) {
	_, l, b := bothOf(t, 40, 12)
	does := func(what string, want int, act func()) {
		t.Helper()
		act()
		changes(t, b.p, want, api.OK)
		b.same("P9.6: " + what)
	}
	does("nothing was done", 0, func() {})
	does("a page of zeros is taken", 1, func() { b.take() })
	does("it is given back", 0, func() { b.give(2) })
	does("taken, and put", 2, func() { b.put(b.take(), of('a')) })
	does("zeros are put again", 1, func() { b.put(2, api.Page{}) })
	does("put anew, and a root", 3, func() { b.put(2, of('b')); b.setRoot(5, 2) })
	does("the root is 0 again", 2, func() { b.setRoot(5, 0) })
	does("committed", 0, func() { b.commit() })
	does("the same is put", 0, func() { b.put(2, of('b')) })
	does("one bit is another", 1, func() {
		x := of('b')
		x[479] ^= 128
		b.put(2, x)
	})
	does("the same is put again", 0, func() { b.put(2, of('b')) })
	does("given back", 1, func() { b.give(2) })
	does("taken again: zeros stand there, the bits are what they were", 1, func() { b.take() })
	does("what stood there is put", 0, func() { b.put(2, of('b')) })
	does("another page for it", 1, func() { b.take(); b.give(2) })
	does("rolled back", 0, func() { b.rollback() })
	lay(t, l, 3, of('c'))
	b.r.told[3] = of('c')
	does("a page in which something stands is taken", 2, func() { b.take() })
	does("what stands there is put", 1, func() { b.put(3, of('c')) })
	does("committed", 0, func() { b.commit() })
	lay(t, l, 3, of('d'))
	b.r.told[3] = of('d')
	does("the log tells something else by itself", 0, func() {})
	does("what it told before is put", 1, func() { b.put(3, of('c')) })
	lay(t, l, 3, of('c'))
	b.r.told[3] = of('c')
	does("the log tells just that by itself", 0, func() {})
}

// TestP9_6ManyBits: pages of bits are changed each by itself.
func TestP9_6ManyBits(t *testing.T) {
	const pages = 16374
	_, l := logOf(t, 8, pages)
	lay(t, l, 0, table(pages, upTo(6, pages))...)
	p := pagerOn(t, l)
	r := reckonOf(8, pages)
	r.last.taken = map[int]bool{}
	for n := 6; n < pages; n++ {
		r.last.taken[n] = true
	}
	copy(r.told, table(pages, upTo(6, pages)))
	r.rollback()
	b := both{t, p, r}
	for k, n := range []int{6, 3840, 7681, 11520, 16373} {
		b.give(n)
		changes(t, p, k+1, api.OK)
	}
	b.give(3839)
	b.give(15360)
	changes(t, p, 5, api.OK)
	b.same("P9.6: given here and there")
	b.commit()
	b.same("P9.6: committed")
	logTells(t, "P9.6: committed", l, r)
	same(t, "P9.6: opened anew", pagerOn(t, l), r)
}

// TestP9_6Commit: it writes just the changed pages, rising, by one Commit of the log.
func TestP9_6Commit(t *testing.T) {
	d, l, b := bothOf(t, 40, 12)
	for range 6 {
		b.take()
	}
	b.put(2, of('a'))
	b.put(4, of('b'))
	b.commit()
	answers(t, "wal.Checkpoint", l.Checkpoint(), api.OK)
	commits := func(what string, pages ...int) {
		t.Helper()
		room, writes := l.Room(), 0
		writes, _ = d.Counts()
		b.commit()
		after, _ := d.Counts()
		if l.Room() != room-len(pages)-2 || after-writes != len(pages)+2 {
			t.Fatalf("P9.6: %s: not one Commit of %d pages: %d of %d sectors are left", what, len(pages), l.Room(), room)
		}
		list, _ := d.Read(2 + 40 - room)
		want := api.Page{}
		for k, n := range pages {
			want[4*k+3] = byte(n)
		}
		if api.Page(list[32:]) != want {
			t.Errorf("P9.6: %s: not written: %v, but %x", what, pages, list[32:32+4*len(pages)+4])
		}
		logTells(t, what, l, b.r)
		b.same(what)
		same(t, what+", opened anew", pagerOn(t, l), b.r)
	}
	b.put(7, of('c'))
	b.put(3, of('d'))
	b.put(5, api.Page{})
	b.put(2, of('a'))
	commits("two of four that were put", 3, 7)
	b.setRoot(1, 7)
	commits("a root", 0)
	b.give(3)
	commits("bits", 1)
	b.take()
	b.take()
	b.setRoot(7, 8)
	b.put(8, of('e'))
	b.put(2, of('f'))
	commits("all kinds", 0, 1, 2, 3, 8)
	room := l.Room()
	before := d.Sectors()
	b.put(2, of('f'))
	b.commit()
	if l.Room() != room || !slices.Equal(before, d.Sectors()) {
		t.Error("P9.6: a Commit of nothing writes something")
	}
}

// TestP9_6CommitBig: more than the log takes at once; at hand it stays, and less of it is committed.
func TestP9_6CommitBig(t *testing.T) {
	for _, x := range []struct{ log, pages int }{{5, 12}, {7, 14}, {130, 300}, {122, 300}, {123, 300}, {121, 300}} {
		most := min(120, x.log-2)
		d, l, b := bothOf(t, x.log, x.pages)
		for range most {
			b.put(b.take(), of('a'))
		}
		changes(t, b.p, most+1, api.OK)
		before := d.Sectors()
		for range 2 {
			answers(t, "P9.6: Commit of too many", b.p.Commit(), api.ErrBig)
			b.same("P9.6: what is too much stays at hand")
		}
		if !slices.Equal(before, d.Sectors()) || len(d.Pending()) != 0 {
			t.Error("P9.6: a Commit of too many writes something")
		}
		logTells(t, "P9.6: too many", l, b.r)
		b.give(3)
		b.same("P9.6: one less")
		b.commit()
		b.same("P9.6: just as many as there may be")
		logTells(t, "P9.6: just as many as there may be", l, b.r)
		for range most + 2 {
			b.put(b.take(), of('b'))
		}
		answers(t, "P9.6: Commit of too many", b.p.Commit(), api.ErrBig)
		b.rollback()
		b.same("P9.6: too many, rolled back")
		same(t, "P9.6: too many, opened anew", pagerOn(t, l), b.r)
	}
}

// TestP9_6NothingIsRead: of the root page and the pages of bits, though they can't be read any more.
func TestP9_6NothingIsRead(t *testing.T) {
	d, l, b := bothOf(t, 12, 9)
	b.take()
	b.commit()
	rot(t, d, l, 0, 1)
	b.r.rotten = map[int]bool{0: true, 1: true}
	b.same("P9.6: the root page and the bits are rotten")
	b.setRoot(0, 2)
	b.put(b.take(), of('a'))
	changes(t, b.p, 3, api.OK)
	b.commit()
	logTells(t, "P9.6: written over", l, b.r)
	b.same("P9.6: committed")
	// What was committed last counts, not what the log tells.
	lay(t, l, 0, of('x'))
	b.r.told[0] = of('x')
	changes(t, b.p, 0, api.OK)
	b.setRoot(0, 0)
	changes(t, b.p, 1, api.OK)
	b.setRoot(0, 2)
	b.commit()
	logTells(t, "P9.6: nothing was changed", l, b.r)
	rot(t, d, l, 2, 3)
	b.r.rotten = map[int]bool{2: true, 3: true}
	b.setRoot(0, 3)
	changes(t, b.p, 1, api.OK)
	b.give(2)
	changes(t, b.p, 2, api.OK)
	b.commit()
	logTells(t, "P9.6: data pages that nobody touched are not read", l, b.r)
}

// TestP9_6Rot: data pages that were put or taken are read; where one can't be, nothing is committed.
func TestP9_6Rot(t *testing.T) {
	d, l, b := bothOf(t, 12, 9)
	b.take()
	b.take()
	b.put(2, of('a'))
	b.commit()
	rot(t, d, l, 3, 5)
	b.r.rotten = map[int]bool{3: true, 5: true}
	b.put(2, of('b'))
	b.same("P9.6: one that was not put can't be read")
	b.put(3, of('c'))
	before := d.Sectors()
	for range 2 {
		changes(t, b.p, 0, api.ErrRot)
		answers(t, "P9.6: Commit", b.p.Commit(), api.ErrRot)
		b.same("P9.6: one that was put can't be read")
	}
	if !slices.Equal(before, d.Sectors()) || len(d.Pending()) != 0 {
		t.Error("P9.6: a Commit that can't read writes something")
	}
	b.give(3)
	b.same("P9.6: it is given back")
	b.commit()
	b.same("P9.6: committed")
	b.take()
	changes(t, b.p, 0, api.ErrRot)
	answers(t, "P9.6: Commit", b.p.Commit(), api.ErrRot)
	b.take()
	b.take()
	b.give(3)
	changes(t, b.p, 0, api.ErrRot)
	answers(t, "P9.6: Commit", b.p.Commit(), api.ErrRot)
	b.give(5)
	b.same("P9.6: all that can't be read are given back")
	b.commit()
	b.same("P9.6: committed")
	b.take()
	b.rollback()
	b.same("P9.6: rolled back")
}

// TestP9_6Dead: on a log that is dead, or dies, all stays at hand; nothing that is to be written is OK all the same.
func TestP9_6Dead(t *testing.T) {
	d, l, b := bothOf(t, 12, 9)
	b.put(b.take(), of('a'))
	b.take()
	b.setRoot(3, 2)
	b.commit()
	answers(t, "wal.Checkpoint", l.Checkpoint(), api.OK)
	b.put(2, of('b'))
	b.put(b.take(), of('c'))
	b.setRoot(4, 4)
	d.Off()
	for range 2 {
		changes(t, b.p, 0, api.ErrDead)
		answers(t, "P9.6: Commit on a log that is dead", b.p.Commit(), api.ErrDead)
		gets(t, b.p, 2, of('b'), api.OK)
		gets(t, b.p, 4, of('c'), api.OK)
		gets(t, b.p, 3, api.Page{}, api.ErrDead)
		if n, e := b.p.Root(4); n != 4 || e != api.OK || b.p.Free() != 4 {
			t.Errorf("P9.6: on a log that is dead: a root %d, %d; %d are free", n, e, b.p.Free())
		}
	}
	b.rollback()
	gets(t, b.p, 2, api.Page{}, api.ErrDead)
	gets(t, b.p, 4, api.Page{}, api.ErrFree)
	if n, e := b.p.Root(4); n != 0 || e != api.OK || b.p.Free() != 5 {
		t.Errorf("P9.6: rolled back on a log that is dead: a root %d, %d; %d are free", n, e, b.p.Free())
	}
	changes(t, b.p, 0, api.OK)
	answers(t, "P9.6: Commit of nothing on a log that is dead", b.p.Commit(), api.OK)
	b.setRoot(0, 3)
	changes(t, b.p, 1, api.OK)
	answers(t, "P9.6: Commit of a root on a log that is dead", b.p.Commit(), api.ErrDead)
	changes(t, b.p, 1, api.OK)
	answers(t, "On", d.On(nil), api.OK)
	answers(t, "P9.6: Commit on a log that was dead", b.p.Commit(), api.ErrDead)
	b.rollback()
	same(t, "P9.8: opened anew", pagerOn(t, logOn(t, d)), b.r)
}

// TestP9_6CommitDies: where the power goes in a Commit all stays at hand, and nothing counts as committed.
func TestP9_6CommitDies(t *testing.T) {
	for k := 1; k <= 7; k++ {
		d, _, b := bothOf(t, 12, 9)
		b.put(b.take(), of('a'))
		b.commit()
		b.put(2, of('b'))
		b.setRoot(0, b.take())
		answers(t, "Arm", d.Arm(k), api.OK)
		answers(t, "P9.6: Commit, the power going", b.p.Commit(), api.ErrDead)
		gets(t, b.p, 2, of('b'), api.OK)
		gets(t, b.p, 3, api.Page{}, api.OK)
		if n, e := b.p.Root(0); n != 3 || e != api.OK || b.p.Free() != 5 {
			t.Errorf("P9.6: behind a failure: root %d, %d; %d are free", n, e, b.p.Free())
		}
		b.rollback()
		if n, e := b.p.Root(0); n != 0 || e != api.OK || b.p.Free() != 6 || b.p.Taken(3) {
			t.Errorf("P9.6: rolled back behind a failure: root %d, %d; %d are free", n, e, b.p.Free())
		}
		b.setRoot(1, 2)
		changes(t, b.p, 1, api.OK)
	}
}

// TestP9_6Rollback: whatever was done, at hand is what was committed last.
func TestP9_6Rollback(t *testing.T) {
	_, _, b := bothOf(t, 20, 12)
	b.rollback()
	b.same("P9.6: nothing was done, and rolled back")
	for range 5 {
		b.put(b.take(), of('a'))
	}
	b.setRoot(0, 3)
	b.rollback()
	b.same("P9.6: nothing was committed, and rolled back")
	for k := range 5 {
		b.put(b.take(), of(byte(k+1)))
	}
	b.setRoot(0, 3)
	b.commit()
	b.rollback()
	b.same("P9.6: committed and rolled back")
	b.take()
	b.give(4)
	b.put(2, of('b'))
	b.put(5, of('c'))
	b.give(5)
	b.setRoot(0, 2)
	b.setRoot(7, 6)
	b.same("P9.6: ahead of the Rollback")
	b.rollback()
	b.same("P9.6: rolled back")
	b.rollback()
	b.same("P9.6: rolled back twice")
	b.give(4)
	b.commit()
	b.rollback()
	b.same("P9.6: committed, and rolled back behind it")
}

// TestR4Nil: of a pager that is not there.
func TestR4Nil(t *testing.T) {
	var p *Pager
	if p.First() != 0 || p.Pages() != 0 || p.Free() != 0 {
		t.Error("R4: of no pager a number is told")
	}
	for _, n := range append(strange(9), 0, 1, 2) {
		if p.Taken(n) {
			t.Errorf("R4: of no pager Taken(%d)", n)
		}
		gets(t, p, n, api.Page{}, api.ErrNil)
		answers(t, "R4: Put", p.Put(n, of('a')), api.ErrNil)
		answers(t, "R4: Give", p.Give(n), api.ErrNil)
		if r, e := p.Root(n); r != 0 || e != api.ErrNil {
			t.Errorf("R4: Root(%d): %d, %d", n, r, e)
		}
		answers(t, "R4: SetRoot", p.SetRoot(n, n), api.ErrNil)
		answers(t, "R4: SetRoot", p.SetRoot(0, n), api.ErrNil)
	}
	takes(t, p, 0, api.ErrNil)
	changes(t, p, 0, api.ErrNil)
	answers(t, "R4: Commit", p.Commit(), api.ErrNil)
	answers(t, "R4: Rollback", p.Rollback(), api.ErrNil)
}

// TestR5Same: pagers of which the same was asked answer the same, and leave the same disks, whatever else is asked of one.
func TestR5Same(t *testing.T) {
	run := func(ask bool) []api.Sector {
		d, l, b := bothOf(t, 60, 70)
		asks := func() {
			if ask {
				b.same("R5")
				_ = pagerOn(t, l)
			}
		}
		for k := range 50 {
			b.put(b.take(), of(byte(k)))
			asks()
		}
		b.setRoot(3, 30)
		b.commit()
		asks()
		for n := 49; n > 9; n -= 3 {
			if n%2 == 0 {
				b.put(n, of(byte(n)))
			} else {
				b.give(n)
			}
			asks()
		}
		b.commit()
		return d.Sectors()
	}
	first := run(false)
	for range 5 {
		if !slices.Equal(first, run(true)) {
			t.Fatal("R5: the disks are not the same")
		}
	}
}

// TestR3Kept: a page that is told or put is a value of its own.
func TestR3Kept(t *testing.T) {
	_, _, p := pagerOf(t, 10, 6)
	takes(t, p, 2, api.OK)
	x := of('a')
	answers(t, "Put", p.Put(2, x), api.OK)
	x[0] = 0
	gets(t, p, 2, of('a'), api.OK)
	y, _ := p.Get(2)
	y[0] = 0
	gets(t, p, 2, of('a'), api.OK)
}

// TestP9_6TwoPagers: two pagers on one log have each their own at hand; what one has committed is not at hand in the other, but in pages that it reads.
func TestP9_6TwoPagers(t *testing.T) {
	_, l, b := bothOf(t, 30, 9)
	other := pagerOn(t, l)
	b.put(b.take(), of('a'))
	b.setRoot(0, 2)
	b.commit()
	if other.Taken(2) || other.Free() != 7 {
		t.Error("P9.6: what another one has taken is at hand")
	}
	changes(t, other, 0, api.OK)
	takes(t, other, 2, api.OK)
	gets(t, other, 2, api.Page{}, api.OK)
	changes(t, other, 2, api.OK)
	answers(t, "P9.6: Commit", other.Commit(), api.OK)
	b.r.told[2] = api.Page{}
	b.same("P9.6: behind another one's Commit")
	if p := pagerOn(t, l); !p.Taken(2) || p.Free() != 6 {
		t.Error("P9.6: what was committed is not there")
	}
}
