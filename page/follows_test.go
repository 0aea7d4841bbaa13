package page

import (
	"fmt"
	"math/rand"
	"slices"
	"testing"

	"ciborium/api"
	"ciborium/disk"
	"ciborium/wal"
)

// step is something that is asked of a pager and its reckoning; Commit is asked apart.
type step func(b both)

// anyStep is a step of any kind, with numbers that are mostly pages, or near to such.
func anyStep(r *rand.Rand, pages int) step {
	n, i, x := r.Intn(pages+3)-1, r.Intn(10)-1, of(byte(r.Intn(5)))
	switch r.Intn(9) {
	case 0, 1:
		return func(b both) { b.put(b.take(), x) }
	case 2:
		return func(b both) { b.take() }
	case 3, 4:
		return func(b both) { b.put(n, x) }
	case 5, 6:
		return func(b both) { b.give(n) }
	case 7:
		return func(b both) { b.setRoot(i, 0) }
	}
	return func(b both) { b.setRoot(i, n) }
}

// TestP9_8AnyRows: long rows of all calls, in which some homes rot; each answers what is reckoned.
func TestP9_8AnyRows(t *testing.T) {
	r := rand.New(rand.NewSource(98))
	for range 150 {
		log, pages := r.Intn(12)+4, r.Intn(20)+3
		d, l, b := bothOf(t, log, pages)
		for k := range 120 {
			switch r.Intn(12) {
			case 0, 1:
				b.commit()
				logTells(t, "P9.8: behind a Commit", l, b.r)
			case 2:
				b.rollback()
			case 3:
				if n := r.Intn(pages); r.Intn(6) == 0 && n >= b.r.first() {
					rot(t, d, l, n)
					b.r.rotten[n] = true
				}
			default:
				anyStep(r, pages)(b)
			}
			b.same(fmt.Sprintf("P9.8: step %d", k))
			if t.Failed() {
				t.FailNow()
			}
		}
		b.rollback()
		same(t, "P9.8: opened anew", pagerOn(t, l), b.r)
	}
}

// TestP9_8AnyRowsFar: so it is among many pages, of which most are taken.
func TestP9_8AnyRowsFar(t *testing.T) {
	r := rand.New(rand.NewSource(99))
	for _, pages := range []int{130, 3845, 7690} {
		_, l := logOf(t, 60, pages)
		first := bitPagesOf(pages) + 1
		taken := slices.DeleteFunc(upTo(first, pages), func(n int) bool { return r.Intn(200) == 0 })
		all := table(pages, taken)
		lay(t, l, 0, all...)
		b := both{t, pagerOn(t, l), reckonOf(60, pages)}
		copy(b.r.told, all)
		for _, n := range taken {
			b.r.last.taken[n] = true
		}
		b.r.rollback()
		for k := range 400 {
			switch r.Intn(20) {
			case 0:
				b.commit()
			case 1:
				b.rollback()
			default:
				anyStep(r, pages)(b)
			}
			if k%40 == 0 {
				b.same(fmt.Sprintf("P9.8: of %d pages, step %d", pages, k))
			}
		}
		b.rollback()
		same(t, "P9.8: opened anew", pagerOn(t, l), b.r)
	}
}

// subsets are all that may stay of what is pending.
func subsets(pending []int) [][]int {
	all := [][]int{nil}
	for _, i := range pending {
		for _, l := range all[:len(all):len(all)] {
			all = append(all, append(slices.Clone(l), i))
		}
	}
	return all
}

// turn is some steps, with a Commit behind them.
type turn []step

func put(n int, c byte) step { return func(b both) { b.put(n, of(c)) } }

func take(c byte) step { return func(b both) { b.put(b.take(), of(c)) } }

func give(n int) step { return func(b both) { b.give(n) } }

func root(i, n int) step { return func(b both) { b.setRoot(i, n) } }

// played is a fresh pager behind some turns, and behind the steps of a last one.
func played(t *testing.T, log, pages int, ahead []turn, last turn) (*disk.Disk, both) {
	t.Helper()
	d, _, b := bothOf(t, log, pages)
	for _, x := range ahead {
		for _, do := range x {
			do(b)
		}
		b.commit()
	}
	for _, do := range last {
		do(b)
	}
	return d, b
}

// TestP9_8Failures: the power goes at every operation of a Commit, whatever of what is pending stays: a pager opened behind it has all of it, or none; and it goes on from there.
func TestP9_8Failures(t *testing.T) {
	for _, x := range []struct {
		what       string
		log, pages int
		ahead      []turn
		last       turn
	}{
		{"of a fresh pager", 6, 5, nil, turn{take('a'), take('b'), root(0, 2)}},
		{"of taken and given pages", 20, 8, []turn{{take('a'), take('b'), take('c'), root(0, 2)}}, turn{give(3), take('d'), take('e'), root(0, 5), give(2)}},
		{"with a checkpoint", 8, 8, []turn{{take('a'), take('b')}, {put(2, 'c')}}, turn{put(3, 'd'), give(2), take('e'), take('f'), root(7, 4)}},
		{"of data alone", 7, 6, []turn{{take('a'), take('b')}, {put(3, 'c')}}, turn{put(2, 'd'), put(3, 'e')}},
		{"of roots alone", 7, 6, []turn{{take('a'), take('b'), root(1, 3)}}, turn{root(1, 2), root(2, 3)}},
	} {
		whole := false
		for k := 1; !whole; k++ {
			d, b := played(t, x.log, x.pages, x.ahead, x.last)
			old := b.r.copy()
			old.rollback()
			answers(t, "Arm", d.Arm(k), api.OK)
			e := b.p.Commit()
			answers(t, "P9.8: Commit, as is reckoned", b.r.commit(), api.OK)
			if e == api.OK {
				whole = true
				b.same("P9.8: Commit " + x.what)
				continue
			}
			answers(t, "P9.8: Commit, the power going", e, api.ErrDead)
			for _, keep := range subsets(d.Pending()) {
				again, c := played(t, x.log, x.pages, x.ahead, x.last)
				again.Arm(k)
				c.p.Commit()
				answers(t, "On", again.On(keep), api.OK)
				goesOn(t, "P9.8: a failure "+x.what, again, old, b.r)
			}
			if k > 40 {
				t.Fatal("P9.8: a Commit without an end")
			}
		}
	}
}

// goesOn: on a disk is what was committed last, or what was under way; all goes on from there. It answers which of them.
func goesOn(t *testing.T, what string, d *disk.Disk, old, new *reckon) *reckon {
	t.Helper()
	l := logOn(t, d)
	p := pagerOn(t, l)
	r := old.copy()
	if s := difference(p, r); s != "" {
		if other := difference(p, new); other != "" {
			t.Fatalf("%s: neither what was committed last (%s) nor what was under way (%s)", what, s, other)
		}
		r = new.copy()
	}
	b := both{t, p, r.copy()}
	b.put(b.take(), of('z'))
	b.setRoot(6, 2)
	b.put(2, of('y'))
	b.commit()
	b.same(what + ", and a Commit behind it")
	same(t, what+", opened anew", pagerOn(t, l), b.r)
	return r
}

// TestP9_8AnyFailures: long rows in which the power goes now and then, in the Opens behind it too.
func TestP9_8AnyFailures(t *testing.T) {
	r := rand.New(rand.NewSource(100))
	failures := [2]int{}
	for range 60 {
		log, pages := r.Intn(14)+6, r.Intn(14)+4
		d, _, b := bothOf(t, log, pages)
		for range 60 {
			for range r.Intn(4) {
				anyStep(r, pages)(b)
			}
			if r.Intn(2) == 0 {
				d.Arm(r.Intn(12) + 1)
			}
			old, new := b.r.copy(), b.r
			old.rollback()
			e, want := b.p.Commit(), new.commit()
			if !d.Dead() {
				answers(t, "P9.6: Commit", e, want)
				b.same("P9.8: no failure")
				continue
			}
			answers(t, "P9.8: a failure", e, api.ErrDead)
			p := openedBehind(t, r, d)
			if s := difference(p, old); s == "" {
				b = both{t, p, old}
				failures[0]++
			} else {
				same(t, "P9.8: what is not as it was committed last ("+s+")", p, new)
				b = both{t, p, new}
				failures[1]++
			}
		}
	}
	if failures[0] == 0 || failures[1] == 0 {
		t.Errorf("failures that left the old: %d; the new: %d: the test is not what it should be", failures[0], failures[1])
	}
}

// openedBehind is a pager behind a failure of the power, which goes again in some of the Opens.
func openedBehind(t *testing.T, r *rand.Rand, d *disk.Disk) *Pager {
	t.Helper()
	for {
		keep := slices.DeleteFunc(d.Pending(), func(int) bool { return r.Intn(2) == 0 })
		answers(t, "On", d.On(keep), api.OK)
		if r.Intn(3) == 0 {
			d.Arm(r.Intn(8) + 1)
		} else {
			d.Arm(0)
		}
		l, e := wal.Open(d)
		if e == api.OK {
			d.Arm(0)
			return pagerOn(t, l)
		}
		answers(t, "P9.8: a failure in an Open", e, api.ErrDead)
	}
}

// TestR1Wild: numbers of all kinds, of a pager in any state; each call ends.
func TestR1Wild(t *testing.T) {
	wild := append(strange(9), upTo(-3, 12)...)
	d, _, b := bothOf(t, 8, 9)
	for _, off := range []bool{false, true} {
		if off {
			d.Off()
		}
		for _, n := range wild {
			b.p.Taken(n)
			b.p.Get(n)
			b.p.Put(n, of('w'))
			b.p.Give(n)
			b.p.Root(n)
			b.p.SetRoot(n, n)
			for _, m := range wild {
				b.p.SetRoot(n, m)
			}
			b.p.Take()
			b.p.Changed()
			b.p.Commit()
			b.p.Rollback()
		}
	}
}
