package page

import (
	"encoding/binary"
	"slices"
	"testing"

	"ciborium/api"
	"ciborium/disk"
	"ciborium/wal"
)

// sizes are numbers of pages about those where one page of bits more begins, and the least and the greatest that can be made.
var sizes = []int{3, 4, 5, 8, 9, 64, 65, 130, 3839, 3840, 3841, 3842, 7680, 7681, 16374}

// TestP9_1Make: the pages 0 to B are as in the table, by one Commit, and the others stay what they are.
func TestP9_1Make(t *testing.T) {
	for _, pages := range sizes {
		d, l := logOf(t, 8, pages)
		end := bitPagesOf(pages) + 1
		lay(t, l, end, of('x'))
		lay(t, l, pages-1, of('y'))
		lay(t, l, 0, of('z'), of('w'))
		answers(t, "wal.Checkpoint", l.Checkpoint(), api.OK)
		before := l.Generation()
		answers(t, "P9.1: Make", Make(l), api.OK)
		if l.Generation() != before || l.Room() != 8-end-2 {
			t.Errorf("P9.1: of %d pages: not one Commit of %d pages: room %d", pages, end, l.Room())
		}
		for n, want := range append(table(pages, nil), of('x')) {
			if n == pages-1 {
				want = of('y')
			}
			if x, e := l.Read(n); x != want || e != api.OK {
				t.Errorf("P9.1: of %d pages: page %d: %x.., %d, not %x..", pages, n, x[:10], e, want[:10])
			}
		}
		if x, e := l.Read(pages - 1); x != of('y') || e != api.OK {
			t.Errorf("P9.1: of %d pages: the last one was changed", pages)
		}
		if !slices.Equal(writtenIn(d, end), upTo(0, end)) {
			t.Errorf("P9.1: of %d pages: not rising: %v", pages, writtenIn(d, end))
		}
	}
}

// writtenIn are the pages that the first record of the log names, which are so many.
func writtenIn(d *disk.Disk, n int) []int {
	s, _ := d.Read(2)
	var all []int
	for k := range n {
		all = append(all, int(binary.BigEndian.Uint32(s[32+4*k:])))
	}
	return all
}

// TestP9_1MakeAgain: over pages that are taken, whatever stands there.
func TestP9_1MakeAgain(t *testing.T) {
	_, l, p := pagerOf(t, 10, 9)
	for range 3 {
		p.Take()
	}
	answers(t, "SetRoot", p.SetRoot(4, 3), api.OK)
	answers(t, "Put", p.Put(4, of('p')), api.OK)
	answers(t, "Commit", p.Commit(), api.OK)
	answers(t, "P9.1: Make", Make(l), api.OK)
	r := reckonOf(10, 9)
	r.told[4] = of('p')
	same(t, "P9.1: made again", pagerOn(t, l), r)
	logTells(t, "P9.1: made again", l, r)
}

// TestP9_1MakeWrong: no log, too few pages, a log that does not take so many at once, one that is dead or dies.
func TestP9_1MakeWrong(t *testing.T) {
	answers(t, "P9.1: Make(nil)", Make(nil), api.ErrNil)
	for pages := 1; pages <= 2; pages++ {
		for _, log := range []int{3, 4, 10} {
			_, l := logOf(t, log, pages)
			answers(t, "P9.1: of too few pages", Make(l), api.ErrArg)
		}
	}
	for _, x := range []struct {
		log, pages int
		want       api.Errno
	}{
		{3, 3, api.ErrBig}, {4, 3, api.OK}, {4, 3840, api.OK}, {4, 3841, api.ErrBig}, {5, 3841, api.OK},
		{7, 16375, api.ErrBig}, {8, 16374, api.OK}, {3, 16379, api.ErrBig},
	} {
		_, l := logOf(t, x.log, x.pages)
		answers(t, "P9.1: Make", Make(l), x.want)
		if page, e := l.Read(0); (page == api.Page{}) != (x.want != api.OK) || e != api.OK {
			t.Errorf("P9.1: Make answers %d, and page 0 is %x.., %d", x.want, page[:4], e)
		}
	}
	for k := 1; k <= 6; k++ {
		d, l := logOf(t, 6, 4)
		answers(t, "Arm", d.Arm(k), api.OK)
		answers(t, "P9.1: Make, the power going", Make(l), api.ErrDead)
		answers(t, "P9.1: Make, on a log that is dead", Make(l), api.ErrArg)
	}
}

// TestP9_2Open: what the pages 0 to B say is at hand.
func TestP9_2Open(t *testing.T) {
	for _, pages := range sizes {
		_, l := logOf(t, 8, pages)
		first, r := bitPagesOf(pages)+1, reckonOf(8, pages)
		lay(t, l, 0, table(pages, nil)...)
		same(t, "P9.2: Open of none taken", pagerOn(t, l), r)
		for _, taken := range [][]int{
			{first}, {pages - 1}, upTo(first, pages), upTo(first, pages-1), upTo((first+pages)/2, pages), upTo(max(first, pages-70), pages),
		} {
			if len(taken) == 0 {
				continue
			}
			roots := []int{0, taken[0], taken[len(taken)-1], 0, taken[len(taken)/2], taken[0], 0, taken[0]}
			all := table(pages, taken, roots...)
			lay(t, l, 0, all...)
			r.last = state{map[int]bool{}, [8]int(roots)}
			for _, n := range taken {
				r.last.taken[n] = true
			}
			copy(r.told, all)
			r.rollback()
			same(t, "P9.2: Open", pagerOn(t, l), r)
		}
	}
}

// TestP9_2OpenChangesNothing: neither the log nor another pager on it.
func TestP9_2OpenChangesNothing(t *testing.T) {
	d, l, b := bothOf(t, 10, 9)
	b.put(b.take(), of('a'))
	b.setRoot(0, 2)
	b.commit()
	b.take()
	before, room := d.Sectors(), l.Room()
	p := pagerOn(t, l)
	if !slices.Equal(d.Sectors(), before) || len(d.Pending()) != 0 || l.Room() != room {
		t.Error("P9.2: Open writes something")
	}
	b.same("P9.2: a pager, behind the Open of another")
	r := b.r.copy()
	r.rollback()
	same(t, "P9.2: the other one", p, r)
}

// TestP9_2OpenWrong: no log, too few pages, a log that is dead.
func TestP9_2OpenWrong(t *testing.T) {
	none := func(what string, l *wal.Log, want api.Errno) {
		t.Helper()
		p, e := Open(l)
		if p != nil || e != want {
			t.Errorf("P9.2: Open of %s: %v, %d, not %d", what, p, e, want)
		}
	}
	none("nil", nil, api.ErrNil)
	for pages := 1; pages <= 2; pages++ {
		d, l := logOf(t, 5, pages)
		none("too few pages", l, api.ErrArg)
		rot(t, d, l, 0)
		none("too few pages, of which one is rotten", l, api.ErrArg)
	}
	_, l := logOf(t, 5, 3)
	none("pages of zeros", l, api.ErrNoPages)
	d, l, _ := pagerOf(t, 5, 3)
	answers(t, "wal.Checkpoint", l.Checkpoint(), api.OK)
	d.Off()
	none("a log whose disk is off", l, api.ErrDead)
	none("a log that is dead", l, api.ErrArg)
}

// TestP9_2OpenRot: a page of 0 to B that can't be read, whatever the others are; one of data is not read.
func TestP9_2OpenRot(t *testing.T) {
	const pages = 3841
	for n := range 3 {
		for _, wrong := range []bool{false, true} {
			d, l, _ := pagerOf(t, 6, pages)
			if wrong {
				lay(t, l, 0, of('a'), of('b'), of('c'))
			}
			rot(t, d, l, n)
			if p, e := Open(l); p != nil || e != api.ErrRot {
				t.Errorf("P9.2: Open, page %d being rotten: %d", n, e)
			}
		}
	}
	d, l, _ := pagerOf(t, 6, pages)
	lay(t, l, 0, table(pages, []int{3, 4}, 3)...)
	rot(t, d, l, 3, 4, 5, pages-1)
	r := reckonOf(6, pages)
	copy(r.told, table(pages, []int{3, 4}, 3))
	r.last = state{map[int]bool{3: true, 4: true}, [8]int{3}}
	r.rotten = map[int]bool{3: true, 4: true, 5: true, pages - 1: true}
	r.rollback()
	same(t, "P9.2: Open, data being rotten", pagerOn(t, l), r)
}

// may says whether there may be such pages 0 to B, and what they say.
func may(pages int, all []api.Page) (state, bool) {
	s := state{taken: map[int]bool{}}
	for p := range len(all[1:]) * 3840 {
		one := all[1+p/3840][p%3840/8]>>(p%8)%2 == 1
		switch {
		case p < len(all) && !one, p >= pages && one:
			return state{}, false
		case p >= len(all) && one:
			s.taken[p] = true
		}
	}
	if string(all[0][:4]) != "page" {
		return state{}, false
	}
	for i := range s.roots {
		n := int(binary.BigEndian.Uint32(all[0][4+4*i:]))
		if n != 0 && !s.taken[n] {
			return state{}, false
		}
		s.roots[i] = n
	}
	return s, !slices.ContainsFunc(all[0][36:], func(c byte) bool { return c != 0 })
}

// TestP9_2OpenBits: pages 0 to B of which any one bit is another one are told from what there may be.
func TestP9_2OpenBits(t *testing.T) {
	for _, x := range []struct {
		pages int
		taken []int
		roots []int
	}{
		{5, []int{2, 4}, []int{2, 0, 4}}, {16, upTo(4, 13), []int{4, 5, 6, 7, 8, 9, 10, 11}}, {3841, []int{3, 3839, 3840}, []int{3840, 3, 3}},
	} {
		_, l := logOf(t, 4, x.pages)
		all := table(x.pages, x.taken, x.roots...)
		lay(t, l, 0, all...)
		good := 0
		for n := range all {
			for bit := range 3840 {
				// Behind a few hundred of a page of zeros one bit is as another.
				if n != 1 && bit > 400 && bit%17 != 0 && bit < 3800 {
					continue
				}
				all[n][bit/8] ^= 1 << (bit % 8)
				lay(t, l, n, all[n])
				s, ok := may(x.pages, all)
				p, e := Open(l)
				switch {
				case ok && (e != api.OK || p.Free() != x.pages-len(all)-len(s.taken)):
					t.Errorf("P9.2: of %d pages, bit %d of page %d turned: %d, but there may be such pages", x.pages, bit, n, e)
				case !ok && (e != api.ErrNoPages || p != nil):
					t.Errorf("P9.2: of %d pages, bit %d of page %d turned: %d, but there may be no such pages", x.pages, bit, n, e)
				case ok:
					good++
				}
				all[n][bit/8] ^= 1 << (bit % 8)
			}
			lay(t, l, n, all[n])
		}
		if good == 0 || good > x.pages+len(x.roots)*14 {
			t.Errorf("of %d pages %d may be: the test is not what it should be", x.pages, good)
		}
		pagerOn(t, l)
	}
}

// TestP9_2OpenRoots: a root is 0 or a data page that is taken.
func TestP9_2OpenRoots(t *testing.T) {
	const pages = 9
	_, l := logOf(t, 8, pages)
	for i := range 8 {
		for _, x := range []struct {
			root int
			want api.Errno
		}{
			{0, api.OK}, {2, api.OK}, {8, api.OK}, {1, api.ErrNoPages}, {3, api.ErrNoPages}, {7, api.ErrNoPages}, {9, api.ErrNoPages}, {3842, api.ErrNoPages},
			{1 << 16, api.ErrNoPages}, {1<<16 + 2, api.ErrNoPages}, {1<<24 + 2, api.ErrNoPages}, {1<<31 + 2, api.ErrNoPages}, {1<<32 - 1, api.ErrNoPages}, {1<<32 - 8, api.ErrNoPages},
		} {
			roots := make([]int, 8)
			roots[i] = x.root
			lay(t, l, 0, table(pages, []int{2, 8}, roots...)...)
			p, e := Open(l)
			answers(t, "P9.2: Open, with a root", e, x.want)
			if got, _ := p.Root(i); x.want == api.OK && got != x.root {
				t.Errorf("P9.5: Root(%d): %d, not %d", i, got, x.root)
			}
		}
	}
}

// TestP9_7Many: First, Pages, Free, Taken of all sizes, of numbers that are no pages too.
func TestP9_7Many(t *testing.T) {
	for _, pages := range sizes {
		_, _, p := pagerOf(t, 8, pages)
		b := bitPagesOf(pages)
		if p.First() != b+1 || p.Pages() != pages || p.Free() != pages-b-1 {
			t.Errorf("P9.7: of %d pages: %d, %d, %d", pages, p.First(), p.Pages(), p.Free())
		}
		for n := range pages {
			if p.Taken(n) != (n <= b) {
				t.Errorf("P9.7: of %d pages: Taken(%d): %t", pages, n, p.Taken(n))
			}
		}
		for _, n := range strange(pages) {
			if p.Taken(n) {
				t.Errorf("P9.7: of %d pages: Taken(%d)", pages, n)
			}
		}
	}
}
