package store

import (
	"fmt"
	"math/rand"
	"slices"
	"strings"
	"testing"

	"ciborium/api"
)

// TestP11_7AnyRows: long rows of all calls, with and without failures of the power; each answers what is reckoned.
func TestP11_7AnyRows(t *testing.T) {
	r := rand.New(rand.NewSource(118))
	for round := range 40 {
		b := bothOf(t, 200+r.Intn(500), []int{50, 122, 125}[r.Intn(3)])
		for k := range 200 {
			b.step(r)
			if k%20 == 0 || t.Failed() {
				b.same(fmt.Sprintf("P11.7: round %d, step %d", round, k))
			}
		}
		b.rollback()
		b.same("P11.7: rolled back")
		b.anew()
		b.same("P11.7: opened anew")
	}
}

// step is any call.
func (b *both) step(r *rand.Rand) {
	b.t.Helper()
	some := anyKey(r)
	if l := keys(b.m.now, "", ""); len(l) > 0 && r.Intn(2) == 0 {
		some = l[r.Intn(len(l))]
	}
	switch r.Intn(14) {
	case 0, 1, 2, 3, 4:
		b.put(some, anyValue(r))
	case 5, 6:
		b.remove(some)
	case 7:
		b.get(some)
	case 8:
		b.list(some[:r.Intn(2)], anyKey(r), r.Intn(9))
	case 9:
		b.all(some[:1])
	case 10:
		if r.Intn(4) == 0 {
			b.rollback()
		}
	case 11:
		if r.Intn(4) == 0 {
			b.anew()
		}
	default:
		b.ends()
	}
}

// ends is a Commit, which may be too big.
func (b *both) ends() {
	b.t.Helper()
	switch e := b.s.Commit(); e {
	case api.OK:
		b.m.commit()
	case api.ErrBig:
		b.m.rollback()
	default:
		b.t.Errorf("P11.4: Commit: %d", e)
	}
}

// subsets are what may stay of what is pending: all there are, or, of many, some.
func subsets(r *rand.Rand, pending []int) [][]int {
	all := [][]int{nil, pending}
	if len(pending) > 4 {
		for range 10 {
			all = append(all, slices.DeleteFunc(slices.Clone(pending), func(int) bool { return r.Intn(2) == 0 }))
		}
		return all
	}
	for m := range 1 << len(pending) {
		var l []int
		for i, n := range pending {
			if m>>i&1 == 1 {
				l = append(l, n)
			}
		}
		all = append(all, l)
	}
	return all
}

// turn is some calls, with a Commit behind them.
type turn func(b *both)

// played is a fresh store behind some turns that are committed, and a last one that is not.
func played(t *testing.T, log int, turns []turn) *both {
	t.Helper()
	b := bothOf(t, 2+log+130, log)
	for i, do := range turns {
		do(b)
		if i+1 < len(turns) {
			b.commit()
		}
	}
	return b
}

// differs says whether a store is not what a map has.
func differs(s *Store, m map[string]string) bool {
	var want []pair
	for _, k := range keys(m, "", "") {
		want = append(want, pair{k, m[k]})
	}
	return !slices.Equal(told(s.All("")), want)
}

// settled opens a store behind a failure in a Commit, and holds it against what was committed and what was under way. Which of the two it was does not change any more, wherever the power goes in other Opens.
func (b *both) settled(r *rand.Rand, what string) {
	b.t.Helper()
	b.openAnyhow(r)
	if differs(b.s, b.m.committed) {
		b.m.commit()
	}
	b.m.rollback()
	b.same(what)
	b.d.Off()
	answers(b.t, "On", b.d.On(nil), api.OK)
	b.openAnyhow(r)
	b.same(what + ", once more")
}

// openAnyhow opens a store; the power goes in some of the Opens.
func (b *both) openAnyhow(r *rand.Rand) {
	b.t.Helper()
	for {
		answers(b.t, "Arm", b.d.Arm(r.Intn(3)*(r.Intn(9)+1)), api.OK)
		s, e := Open(b.d)
		if e == api.OK {
			b.s = s
			answers(b.t, "Arm", b.d.Arm(0), api.OK)
			return
		}
		if e != api.ErrDead {
			b.t.Fatalf("P11.7: a failure in an Open: %d", e)
		}
		keep := slices.DeleteFunc(b.d.Pending(), func(int) bool { return r.Intn(2) == 0 })
		answers(b.t, "On", b.d.On(keep), api.OK)
	}
}

// TestP11_7Failures: the power goes at every operation of a Commit, whatever of what is pending stays.
func TestP11_7Failures(t *testing.T) {
	r := rand.New(rand.NewSource(119))
	long := func(i int) string { return strings.Repeat("k", 199) + string([]byte{byte('a' + i)}) }
	fill := func(b *both) {
		for i := range 7 {
			b.put(long(i), text(i, 300*(i%3)))
		}
	}
	for what, turns := range map[string][]turn{
		"the first key": {func(b *both) { b.put("a", "1") }},
		"many at once":  {fill},
		"one over":      {fill, func(b *both) { b.put(long(2), text(1, 200)) }},
		"some less":     {fill, func(b *both) { b.remove(long(3)); b.remove(long(4)) }},
		"another for each": {fill, func(b *both) {
			for i := range 7 {
				b.remove(long(i))
				b.put(long(i+8), text(i, 480))
			}
		}},
		"none of them any more": {fill, func(b *both) {
			for i := range 7 {
				b.remove(long(i))
			}
		}},
	} {
		// In a log that is so short the last Commit has a Checkpoint ahead of it.
		for _, log := range []int{70, 30} {
			failures(t, r, fmt.Sprintf("%s, a log of %d", what, log), log, turns)
		}
	}
}

func failures(t *testing.T, r *rand.Rand, what string, log int, turns []turn) {
	t.Helper()
	for k := 1; ; k++ {
		b := played(t, log, turns)
		answers(t, "Arm", b.d.Arm(k), api.OK)
		e := b.s.Commit()
		if e == api.OK {
			return
		}
		answers(t, "P11.7: "+what, e, api.ErrDead)
		if t.Failed() || k > 200 {
			t.Fatal("P11.7: " + what)
		}
		for _, keep := range subsets(r, b.d.Pending()) {
			b := played(t, log, turns)
			answers(t, "Arm", b.d.Arm(k), api.OK)
			answers(t, "P11.7: "+what, b.s.Commit(), api.ErrDead)
			answers(t, "On", b.d.On(keep), api.OK)
			b.settled(r, fmt.Sprintf("P11.7: %s: %d", what, k))
			b.put("further", text(1, 500))
			b.commit()
			b.anew()
			b.same("P11.7: it goes on")
		}
	}
}

// TestP11_7AnyFailures: long rows in which the power goes now and then, at any operation.
func TestP11_7AnyFailures(t *testing.T) {
	r := rand.New(rand.NewSource(120))
	for range 30 {
		b := bothOf(t, 600, []int{50, 90, 122}[r.Intn(3)])
		for range 40 {
			for range r.Intn(3) {
				if l := keys(b.m.now, "", ""); r.Intn(3) > 0 || len(l) == 0 {
					b.put(anyKey(r), text(r.Intn(99), r.Intn(900)))
				} else {
					b.remove(l[r.Intn(len(l))])
				}
			}
			answers(t, "Arm", b.d.Arm(r.Intn(2)*(r.Intn(15)+1)), api.OK)
			if e := b.s.Commit(); e == api.OK {
				b.m.commit()
				answers(t, "Arm", b.d.Arm(0), api.OK)
				continue
			}
			isDead(t, "P11.7", b.s)
			keep := slices.DeleteFunc(b.d.Pending(), func(int) bool { return r.Intn(2) == 0 })
			answers(t, "On", b.d.On(keep), api.OK)
			b.settled(r, "P11.7: behind a failure")
		}
	}
}

// TestP11_7Anew: a store that is opened anew, with nothing at hand, answers as the one that it was: also as to which pages are free, and what is written next.
func TestP11_7Anew(t *testing.T) {
	r := rand.New(rand.NewSource(121))
	for range 10 {
		b := bothOf(t, 500, 122)
		for range 60 {
			b.step(r)
		}
		b.ends()
		other := &both{t, b.d, opened(t, b.d), b.m, b.data}
		if b.s.Free() != other.s.Free() {
			t.Errorf("P11.7: Free: %d, opened anew %d", b.s.Free(), other.s.Free())
		}
		b.same("P11.7: as it was")
		other.same("P11.7: opened anew")
		for range 30 {
			if r.Intn(3) == 0 {
				other.remove(anyKey(r))
			}
			other.put(anyKey(r), anyValue(r))
		}
		other.ends()
		other.same("P11.7: it goes on")
	}
}
