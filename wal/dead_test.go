package wal

import (
	"fmt"
	"math/rand"
	"slices"
	"testing"

	"ciborium/api"
	"ciborium/disk"
)

// deadFor: all that a dead log of 5 pages and a log of 8 sectors answers.
func deadFor(t *testing.T, what string, d *disk.Disk, l *Log) {
	t.Helper()
	writes, flushes := d.Counts()
	before := d.Sectors()
	for range 2 {
		tells(t, l, 0, 0, 0)
		for _, p := range append(strange(5), 0, 1, 2, 3, 4) {
			reads(t, l, p, api.Page{}, api.ErrDead)
		}
		answers(t, "P8.5: Checkpoint, "+what, l.Checkpoint(), api.ErrDead)
		answers(t, "P8.4: Commit, "+what, l.Commit(to('X', 1)), api.ErrDead)
		answers(t, "P8.4: Commit of as many as go, "+what, l.Commit(to('X', 0, 1, 2, 3, 4)), api.ErrDead)
		// What is named ahead of the disk's error.
		answers(t, "P8.4: Commit of none, "+what, l.Commit(nil), api.OK)
		answers(t, "P8.4: Commit of page 5, "+what, l.Commit(to('X', 5)), api.ErrArg)
		answers(t, "P8.4: Commit of page -1, "+what, l.Commit(to('X', 0, -1)), api.ErrArg)
		answers(t, "P8.4: Commit of a page twice, "+what, l.Commit(to('X', 2, 2)), api.ErrArg)
	}
	w, f := d.Counts()
	if w != writes || f != flushes || !slices.Equal(d.Sectors(), before) {
		t.Errorf("%s: a dead log does something to the disk", what)
	}
}

// TestDead: a log whose disk has gone dead, in each call that asks it and at each of its operations, answers so from then on, also when the power is back.
func TestDead(t *testing.T) {
	calls := map[string]func(l *Log) api.Errno{
		"Read":                        func(l *Log) api.Errno { _, e := l.Read(4); return e },
		"Commit":                      func(l *Log) api.Errno { return l.Commit(to('C', 1)) },
		"Checkpoint":                  func(l *Log) api.Errno { return l.Checkpoint() },
		"Commit behind a Checkpoint":  func(l *Log) api.Errno { return l.Commit(to('C', 0, 1, 2)) },
		"Commit of all, in the midst": func(l *Log) api.Errno { return l.Commit(to('C', 4, 3, 2, 1, 0)) },
	}
	for what, call := range calls {
		for k := range 14 {
			for _, keeps := range []bool{false, true} {
				d, l := openedOn(t, laid(8, 5, 3, 'a'))
				answers(t, "P8.4: Commit", l.Commit(to('A', 1, 0)), api.OK)
				if k == 0 {
					d.Off()
				}
				d.Arm(k)
				e := call(l)
				if !d.Dead() {
					answers(t, what, e, api.OK)
					tells(t, l, 5, l.Room(), l.Generation())
					continue
				}
				answers(t, what+", the power going", e, api.ErrDead)
				where := fmt.Sprintf("behind a power that went at %d of %s", k, what)
				deadFor(t, where+", and is off", d, l)
				keep := d.Pending()
				if !keeps {
					keep = nil
				}
				answers(t, "On", d.On(keep), api.OK)
				deadFor(t, where+", and is back", d, l)
				other := openOf(t, d)
				tells(t, other, 5, 8, other.Generation())
				deadFor(t, where+", and another log is open", d, l)
			}
		}
	}
}

// TestDeadBig: that there are too many images is said of a dead log, too.
func TestDeadBig(t *testing.T) {
	d, l := openedOn(t, laid(4, 150, 3, 'a'))
	d.Off()
	reads(t, l, 0, api.Page{}, api.ErrDead)
	for _, n := range []int{3, 120, 121, 150} {
		answers(t, "P8.4: Commit of too many, dead", l.Commit(to('X', upTo(n)...)), api.ErrBig)
	}
	answers(t, "P8.4: Commit of too many, one wrong, dead", l.Commit(to('X', append(upTo(150), 150)...)), api.ErrArg)
	answers(t, "P8.4: Commit, dead", l.Commit(to('X', 0, 1)), api.ErrDead)
}

// TestDeadEmpty: ErrDead goes ahead of what a Checkpoint of an empty log answers.
func TestDeadEmpty(t *testing.T) {
	d, l := openedOn(t, laid(8, 5, 3, 'a'))
	d.Off()
	reads(t, l, 2, api.Page{}, api.ErrDead)
	answers(t, "P8.5: Checkpoint of an empty log, dead", l.Checkpoint(), api.ErrDead)
	d.On(nil)
	deadFor(t, "an empty log", d, l)
}

// TestNotDead: a log that has not asked its disk does not know that the power is off; and if it is back ahead of the next time, nothing has happened.
func TestNotDead(t *testing.T) {
	start := laid(8, 5, 3, 'a')
	d, l := openedOn(t, start)
	r := opened(start)
	off := func() {
		d.Off()
		tells(t, l, 5, r.log-r.used(), r.g)
		for _, p := range strange(5) {
			reads(t, l, p, api.Page{}, api.ErrArg)
		}
		answers(t, "P8.4: Commit of none", l.Commit(nil), api.OK)
		answers(t, "P8.4: Commit of page 5", l.Commit(to('X', 5)), api.ErrArg)
	}
	off()
	answers(t, "P8.5: Checkpoint of an empty log", l.Checkpoint(), api.OK)
	d.On(nil)
	same(t, "the power back", d, l, r)
	commits(t, d, l, r, to('A', 1, 2))
	off()
	reads(t, l, 1, to('A', 1, 2)[0].Data, api.OK)
	d.On(nil)
	same(t, "the power back", d, l, r)
	commits(t, d, l, r, to('B', 0), to('C', 2))
}

// TestR4Nil: of no log each call answers ErrNil, or nothing, whatever it is handed.
func TestR4Nil(t *testing.T) {
	var none *Log
	tells(t, none, 0, 0, 0)
	for _, p := range append(strange(5), 0, 1) {
		reads(t, none, p, api.Page{}, api.ErrNil)
		answers(t, "R4: Commit", none.Commit(to('A', p)), api.ErrNil)
		answers(t, "R4: Commit", none.Commit(to('A', p, p)), api.ErrNil)
	}
	answers(t, "R4: Commit of none", none.Commit(nil), api.ErrNil)
	answers(t, "R4: Commit of many", none.Commit(to('A', upTo(200)...)), api.ErrNil)
	answers(t, "R4: Checkpoint", none.Checkpoint(), api.ErrNil)
}

// TestR3Commit: what is handed to Commit stays as it is, the room behind it too, and is not kept.
func TestR3Commit(t *testing.T) {
	for _, pages := range [][]int{{3}, {4, 0, 2}, {2, 2}, {7}, {0, 1, 2, 3, 4}} {
		start := laid(6, 5, 3, 'a')
		d, l := openedOn(t, start)
		r := opened(start)
		whole := append(to('A', pages...), to('Z', 1, 1, 1, 1)...)
		w := whole[:len(pages)]
		before := slices.Clone(whole)
		e := l.Commit(w)
		if !slices.Equal(whole, before) {
			t.Errorf("R3: Commit writes what it is handed")
		}
		if e == api.OK {
			r.commit(w)
		}
		for i := range whole {
			whole[i] = api.Image{Page: 1, Data: of('S')}
		}
		same(t, "R3: Commit keeps what it was handed", d, l, r)
		if e == api.OK {
			r.checkpoint()
			answers(t, "P8.5: Checkpoint", l.Checkpoint(), api.OK)
			same(t, "R3: Commit keeps what it was handed", d, l, r)
		}
	}
}

// TestR3Read: what is told is the caller's own.
func TestR3Read(t *testing.T) {
	start := laid(9, 5, 3, 'a')
	d, l := openedOn(t, start)
	r := opened(start)
	commits(t, d, l, r, to('A', 1, 3))
	for p := range 5 {
		x, _ := l.Read(p)
		for i := range x {
			x[i] = 99
		}
		same(t, "R3: Read tells what is kept", d, l, r)
	}
	x, _ := l.Read(1)
	commits(t, d, l, r, to('B', 1))
	if x != to('A', 1, 3)[0].Data {
		t.Errorf("R3: what was told changes")
	}
}

// TestR5Same: two logs to which the same was done tell the same, and write the same.
func TestR5Same(t *testing.T) {
	for seed := range int64(10) {
		r := rand.New(rand.NewSource(seed))
		d, l := openedOn(t, laid(30, 12, 3, 'a'))
		other, m := openedOn(t, laid(30, 12, 3, 'a'))
		for range 40 {
			w := to(byte(r.Intn(256)), r.Perm(12)[:r.Intn(13)]...)
			e, f := l.Commit(w), m.Commit(w)
			if e != f || l.Room() != m.Room() || l.Generation() != m.Generation() || !slices.Equal(d.Sectors(), other.Sectors()) {
				t.Fatalf("R5: two logs differ")
			}
		}
	}
}

// TestApart: logs on two disks do not know of each other.
func TestApart(t *testing.T) {
	start := laid(8, 5, 3, 'a')
	d, l := openedOn(t, start)
	other, m := openedOn(t, start)
	r, s := opened(start), opened(start)
	commits(t, d, l, r, to('A', 1))
	same(t, "the other log", other, m, s)
	commits(t, other, m, s, to('B', 1), to('C', 0, 1, 2, 3, 4))
	d.Off()
	reads(t, l, 2, api.Page{}, api.ErrDead)
	same(t, "the other log", other, m, s)
}
