package tree

import (
	"fmt"
	"math/rand"
	"slices"
	"strings"
	"testing"

	"ciborium/api"
	"ciborium/disk"
	"ciborium/page"
	"ciborium/wal"
)

// subsets are what may stay of what is pending: all there are, or, of many, some.
func subsets(r *rand.Rand, pending []int) [][]int {
	all := [][]int{nil, pending}
	if len(pending) > 4 {
		for range 12 {
			all = append(all, slices.DeleteFunc(slices.Clone(pending), func(int) bool { return r.Intn(2) == 0 }))
		}
		return all
	}
	for m := range 1 << len(pending) {
		var l []int
		for i, n := range pending {
			if m>>i&1 == 1 {
				l = append(l, n)
			}
		}
		all = append(all, l)
	}
	return all
}

// turn is some calls of a tree, with a Commit behind them.
type turn func(b both)

// played is a fresh tree behind some turns that are committed, and a last one that is not.
func played(t *testing.T, log int, turns []turn) (d *disk.Disk, b both, old reckoning) {
	t.Helper()
	d, _, p := pagerOf(t, log, 120)
	b = both{t, p, treeOn(t, p, 3), reckoning{}}
	for i, do := range turns {
		old = b.r.copy()
		do(b)
		if i+1 < len(turns) {
			answers(t, "Commit", p.Commit(), api.OK)
		}
	}
	return d, b, old
}

// difference is where a tree is not as it must be; nothing, if it is.
func difference(x *Tree, r reckoning) string {
	keys, e := x.List("", "", 1000)
	if !slices.Equal(keys, r.keys()) || e != api.OK {
		return fmt.Sprintf("keys %.9q, %d", keys, e)
	}
	for k, v := range r {
		if got, _, e := x.Get(k); got != v || e != api.OK {
			return fmt.Sprintf("%.9q: %d bytes, %d", k, len(got), e)
		}
	}
	return ""
}

// oneOf is which of two a tree is.
func oneOf(t *testing.T, p *page.Pager, x *Tree, old, new reckoning) both {
	t.Helper()
	r := old
	if s := difference(x, old); s != "" {
		r = new
		if other := difference(x, new); other != "" {
			t.Fatalf("P10.8: neither what was committed last (%s) nor what was under way (%s)", s, other)
		}
	}
	b := both{t, p, x, r.copy()}
	b.alone("P10.8: behind a failure")
	return b
}

// TestP10_8Failures: the power goes at every operation of a Commit, whatever of what is pending stays.
func TestP10_8Failures(t *testing.T) {
	r := rand.New(rand.NewSource(130))
	long := func(i int) string { return strings.Repeat("k", 199) + string([]byte{byte('a' + i)}) }
	fill := func(b both) {
		for i := range 7 {
			b.put(long(i), text(i, 300*(i%3)))
		}
	}
	for what, turns := range map[string][]turn{
		"the first key":       {func(b both) { b.put("a", "1") }},
		"many at once":        {fill},
		"one more, nodes cut": {fill, func(b both) { b.put(long(9), text(1, 1000)) }},
		"one over":            {fill, func(b both) { b.put(long(2), text(1, 200)) }},
		"one less":            {fill, func(b both) { b.remove(long(3)); b.remove(long(4)) }},
		"none of them any more": {fill, func(b both) {
			for i := range 7 {
				b.remove(long(i))
			}
		}},
		"another for each": {fill, func(b both) {
			for i := range 7 {
				b.remove(long(i))
				b.put(long(i+8), text(i, 480))
			}
		}},
	} {
		// In a log that is so short the last Commit has a Checkpoint ahead of it.
		for _, log := range []int{70, 30} {
			failures(t, r, fmt.Sprintf("%s, a log of %d", what, log), log, turns)
		}
	}
}

func failures(t *testing.T, r *rand.Rand, what string, log int, turns []turn) {
	t.Helper()
	for k := 1; ; k++ {
		d, b, old := played(t, log, turns)
		d.Arm(k)
		e := b.p.Commit()
		if e == api.OK {
			return
		}
		answers(t, "P10.8: "+what, e, api.ErrDead)
		if t.Failed() || k > 200 {
			t.Fatal("P10.8: " + what)
		}
		for _, keep := range subsets(r, d.Pending()) {
			d, b, _ := played(t, log, turns)
			d.Arm(k)
			b.p.Commit()
			answers(t, "On", d.On(keep), api.OK)
			p := openedOn(t, d)
			c := oneOf(t, p, treeOn(t, p, 3), old, b.r)
			c.put("further", text(1, 500))
			answers(t, "Commit", p.Commit(), api.OK)
			p = openedOn(t, d)
			both{t, p, treeOn(t, p, 3), c.r}.alone("P10.8: it goes on")
		}
	}
}

// TestP10_8AnyFailures: long rows in which the power goes now and then, also while the log is opened.
func TestP10_8AnyFailures(t *testing.T) {
	r := rand.New(rand.NewSource(131))
	for range 30 {
		d, _, p := pagerOf(t, 90, 500)
		b := both{t, p, treeOn(t, p, 0), reckoning{}}
		for range 40 {
			old := b.r.copy()
			for range r.Intn(3) {
				if r.Intn(3) > 0 {
					b.put(anyKey(r), text(r.Intn(99), r.Intn(900)))
				} else if keys := b.r.keys(); len(keys) > 0 {
					b.remove(keys[r.Intn(len(keys))])
				}
			}
			if r.Intn(2) == 0 {
				d.Arm(r.Intn(15) + 1)
			}
			if e := b.p.Commit(); e == api.OK {
				d.Arm(0)
				continue
			}
			p := openedBehind(t, r, d)
			b = oneOf(t, p, treeOn(t, p, 0), old, b.r)
		}
	}
}

// openedBehind is a pager behind a failure of the power, which goes again in some of the Opens.
func openedBehind(t *testing.T, r *rand.Rand, d *disk.Disk) *page.Pager {
	t.Helper()
	for {
		keep := slices.DeleteFunc(d.Pending(), func(int) bool { return r.Intn(2) == 0 })
		answers(t, "On", d.On(keep), api.OK)
		d.Arm(r.Intn(3) * (r.Intn(8) + 1))
		l, e := wal.Open(d)
		d.Arm(0)
		if e == api.OK {
			return pagerOn(t, l)
		}
		answers(t, "P10.8: a failure in an Open", e, api.ErrDead)
	}
}
