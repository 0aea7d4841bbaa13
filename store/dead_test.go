package store

import (
	"fmt"
	"math"
	"slices"
	"testing"

	"ciborium/api"
)

// calls are all that a store may be asked, at good and wrong arguments; each tells whether anything but an error was told.
func calls() map[string]func(s *Store) (api.Errno, bool) {
	get := func(key string) func(s *Store) (api.Errno, bool) {
		return func(s *Store) (api.Errno, bool) { v, there, e := s.Get(key); return e, v != "" || there }
	}
	put := func(key, value string) func(s *Store) (api.Errno, bool) {
		return func(s *Store) (api.Errno, bool) { return s.Put(key, value), false }
	}
	remove := func(key string) func(s *Store) (api.Errno, bool) {
		return func(s *Store) (api.Errno, bool) { was, e := s.Delete(key); return e, was }
	}
	list := func(most int) func(s *Store) (api.Errno, bool) {
		return func(s *Store) (api.Errno, bool) { l, e := s.List("", "", most); return e, l != nil }
	}
	return map[string]func(s *Store) (api.Errno, bool){
		"Get": get("a"), "Get of none": get("zz"), "Get of no key": get(""),
		"Put": put("a", "2"), "Put of another": put("zz", text(1, 900)), "Put of no key": put("", ""), "Put of too much": put("a", text(1, 4001)),
		"Delete": remove("a"), "Delete of none": remove("zz"), "Delete of no key": remove(""),
		"List": list(9), "List of none": list(0), "List of all": list(math.MaxInt), "List of fewer": list(-1),
		"Commit":   func(s *Store) (api.Errno, bool) { return s.Commit(), false },
		"Rollback": func(s *Store) (api.Errno, bool) { return s.Rollback(), false },
	}
}

// isDead holds all calls of a store against those of a dead one.
func isDead(t *testing.T, what string, s *Store) {
	t.Helper()
	for name, do := range calls() {
		e, more := do(s)
		answers(t, fmt.Sprintf("%s: dead: %s", what, name), e, api.ErrDead)
		if more {
			t.Errorf("%s: dead: %s: it tells more", what, name)
		}
	}
	if s.Free() != 0 || told(s.All("")) != nil {
		t.Errorf("%s: dead: Free %d, All %v", what, s.Free(), told(s.All("")))
	}
}

// living is a store of which nothing is at hand but what is committed: all must be read.
func living(t *testing.T) *both {
	t.Helper()
	b := bothOf(t, 300, 60)
	b.put("a", text(1, 500))
	b.put("b", "2")
	b.commit()
	b.anew()
	return b
}

// TestDead: whichever call it is to which the disk answers ErrDead, the store is dead, for good.
func TestDead(t *testing.T) {
	asked := calls()
	for _, name := range []string{"Get", "Get of none", "Put", "Put of another", "Delete", "Delete of none", "List", "List of none", "List of all"} {
		b := living(t)
		b.d.Off()
		if b.s.Free() == 0 {
			t.Error("P11.2: Free asks the disk")
		}
		e, more := asked[name](b.s)
		if e != api.ErrDead || more {
			t.Errorf("%s, the power off: %d, %v", name, e, more)
		}
		stays(t, name, b)
	}
	b := living(t)
	b.d.Off()
	if told(b.s.All("")) != nil {
		t.Error("P11.3: the power is off, but All tells something")
	}
	stays(t, "All", b)
}

// stays holds a dead store against one, with the power off, on again, and beside one that is opened anew.
func stays(t *testing.T, what string, b *both) {
	t.Helper()
	isDead(t, what, b.s)
	answers(t, "On", b.d.On(nil), api.OK)
	dead := b.s
	isDead(t, what+", the power on", dead)
	b.anew()
	b.same("P11.7: " + what + ": opened anew")
	isDead(t, what+", another one opened", dead)
	b.put("further", "1")
	b.commit()
	isDead(t, what+", another one committed", dead)
	b.anew()
	b.same("P11.7: " + what + ": it goes on")
}

// TestDeadCommit: a Commit in which the power goes; what was at hand is let go.
func TestDeadCommit(t *testing.T) {
	for k := 1; k < 5; k++ {
		b := living(t)
		b.put("a", "9")
		b.put("c", text(3, 3000))
		answers(t, "Arm", b.d.Arm(k), api.OK)
		answers(t, "P11.4: Commit", b.s.Commit(), api.ErrDead)
		b.m.rollback()
		stays(t, fmt.Sprint("Commit, ", k), b)
	}
}

// TestDeadNotYet: a store lives as long as its disk has not answered ErrDead to it: what is at hand is told.
func TestDeadNotYet(t *testing.T) {
	b := bothOf(t, 300, 60)
	b.d.Off()
	b.same("the power is off, nothing was asked")
	b.put("a", text(1, 2000))
	b.put("b", "2")
	b.remove("b")
	b.get("a")
	answers(t, "P11.2: Put of no key", b.put("", "x"), api.ErrArg)
	b.all("")
	b.same("the power is off, all is at hand")
	b.rollback()
	b.same("rolled back")
	answers(t, "On", b.d.On(nil), api.OK)
	b.put("a", "1")
	b.commit()
	b.anew()
	b.same("the power is on again, and nothing was asked in between")
}

// TestDeadOrder: wrong arguments are told of a store that lives with the power off, and do not make it dead.
func TestDeadOrder(t *testing.T) {
	b := living(t)
	b.d.Off()
	asked := calls()
	for name, want := range map[string]api.Errno{"Get of no key": api.ErrArg, "Put of no key": api.ErrArg, "Put of too much": api.ErrLong, "Delete of no key": api.ErrArg, "List of fewer": api.ErrArg, "Commit": api.OK, "Rollback": api.OK} {
		e, more := asked[name](b.s)
		if e != want || more {
			t.Errorf("%s, the power off: %d, %v; not %d", name, e, more, want)
		}
	}
	answers(t, "On", b.d.On(nil), api.OK)
	b.same("it lives")
}

// TestDeadQuiet: a dead store asks nothing of the disk, and changes nothing on it.
func TestDeadQuiet(t *testing.T) {
	b := living(t)
	b.put("a", "9")
	b.d.Off()
	answers(t, "P11.4: Commit", b.s.Commit(), api.ErrDead)
	answers(t, "On", b.d.On(nil), api.OK)
	before := b.d.Sectors()
	writes, flushes := b.d.Counts()
	isDead(t, "quiet", b.s)
	if w, f := b.d.Counts(); w != writes || f != flushes || len(b.d.Pending()) > 0 || !slices.Equal(b.d.Sectors(), before) {
		t.Error("R2: a dead store changes the disk")
	}
}

// TestDeadOne: of two stores only that is dead to which the disk has answered.
func TestDeadOne(t *testing.T) {
	b := living(t)
	other := opened(t, b.d)
	b.d.Off()
	_, _, e := other.Get("a")
	answers(t, "Get", e, api.ErrDead)
	answers(t, "On", b.d.On(nil), api.OK)
	isDead(t, "one", other)
	b.same("the other one")
}

// TestDeadOpen: where the power goes in an Open there is no store.
func TestDeadOpen(t *testing.T) {
	k := 0
	for {
		b := living(t)
		b.put("a", "9")
		b.commit()
		k++
		answers(t, "Arm", b.d.Arm(k), api.OK)
		s, e := Open(b.d)
		if e == api.OK || k > 99 {
			break
		}
		answers(t, "P11.1: Open", e, api.ErrDead)
		if s != nil {
			t.Error("P11.1: Open: a store, and an error")
		}
		answers(t, "On", b.d.On(nil), api.OK)
		b.anew()
		b.same("P11.7: behind a failure in an Open")
	}
	if k < 4 || k > 99 {
		t.Errorf("P11.1: %d operations of an Open", k)
	}
}

// TestDeadMake: where the power goes in a Make, there is behind it what was there before, or no store, or an empty one.
func TestDeadMake(t *testing.T) {
	seen := map[string]int{}
	for k := 1; ; k++ {
		b := bothOf(t, 60, 20)
		answers(t, "P11.2: Put", b.put("a", "1"), api.OK)
		b.commit()
		answers(t, "Arm", b.d.Arm(k), api.OK)
		e := Make(b.d, 20)
		if e == api.OK {
			break
		}
		answers(t, "P11.1: Make", e, api.ErrDead)
		keep := b.d.Pending()
		answers(t, "On", b.d.On(keep[:k%2*len(keep)/2]), api.OK)
		seen[b.behindMake()]++
		if k > 200 {
			t.Fatal("P11.1: no end of it")
		}
	}
	for _, what := range []string{"the old one", "none", "an empty one"} {
		if seen[what] == 0 {
			t.Errorf("P11.1: never %s", what)
		}
	}
}

// behindMake is what there is behind a Make in which the power went.
func (b *both) behindMake() string {
	b.t.Helper()
	s, e := Open(b.d)
	if e == api.ErrNoLog || e == api.ErrNoPages {
		return "none"
	}
	answers(b.t, "P11.1: Open behind a failure in Make", e, api.OK)
	b.s = s
	if s.Free() < b.data {
		b.same("P11.1: the old one")
		return "the old one"
	}
	b.m = &machine{}
	b.same("P11.1: an empty one")
	return "an empty one"
}
