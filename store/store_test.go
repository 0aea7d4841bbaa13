package store

import (
	"math"
	"slices"
	"strings"
	"testing"

	"ciborium/api"
	"ciborium/disk"
	"ciborium/page"
	"ciborium/wal"
)

// TestErrors: the numbers that the chapter names.
func TestErrors(t *testing.T) {
	for e, n := range map[api.Errno]int{api.ErrNil: 1, api.ErrArg: 2, api.ErrLong: 3, api.ErrFull: 5, api.ErrDead: 6, api.ErrNoLog: 80, api.ErrRot: 81, api.ErrBig: 82, api.ErrNoPages: 90, api.ErrTree: 100} {
		if int(e) != n {
			t.Errorf("%d, not %d", e, n)
		}
	}
}

// TestExamples: the chapter's table, row by row.
func TestExamples(t *testing.T) {
	d := diskOf(t, 300)
	answers(t, "Make(150)", Make(d, 150), api.OK)
	s := opened(t, d)
	if s.Free() != 146 {
		t.Errorf("Free: %d", s.Free())
	}
	answers(t, "Put(a: 1)", s.Put("a", "1"), api.OK)
	answers(t, "Put(b: 2)", s.Put("b", "2"), api.OK)
	answers(t, "Commit", s.Commit(), api.OK)
	if was, e := s.Delete("a"); !was || e != api.OK {
		t.Errorf("Delete(a): %v, %d", was, e)
	}
	answers(t, "Put(c: 3)", s.Put("c", "3"), api.OK)
	answers(t, "Rollback", s.Rollback(), api.OK)
	if l := told(s.All("")); !slices.Equal(l, []pair{{"a", "1"}, {"b", "2"}}) {
		t.Errorf("All: %v", l)
	}
	answers(t, "Put(a: 9)", s.Put("a", "9"), api.OK)
	d.Off()
	answers(t, "Commit, the power off", s.Commit(), api.ErrDead)
	_, _, e := s.Get("b")
	answers(t, "Get(b), the power off", e, api.ErrDead)
	answers(t, "On", d.On(nil), api.OK)
	s = opened(t, d)
	if v, there, e := s.Get("a"); v != "1" || !there || e != api.OK {
		t.Errorf("Get(a): %q, %v, %d", v, there, e)
	}
	answers(t, "Make(3)", Make(diskOf(t, 300), 3), api.ErrBig)
	s, e = Open(diskOf(t, 300))
	answers(t, "Open of zeros", e, api.ErrNoLog)
	if s != nil {
		t.Error("Open of zeros: a store")
	}
	answers(t, "Make(nil, 9)", Make(nil, 9), api.ErrNil)
}

// byHand does what Make must do.
func byHand(d *disk.Disk, log int) api.Errno {
	if e := wal.Format(d, log); e != api.OK {
		return e
	}
	l, e := wal.Open(d)
	if e != api.OK {
		return e
	}
	return page.Make(l)
}

// TestP11_1Make: on disks of many sizes Make does what the three calls do that the chapter names, with every error of them.
func TestP11_1Make(t *testing.T) {
	seen := map[api.Errno]int{}
	for _, sectors := range []int{1, 5, 6, 7, 8, 9, 10, 12, 300, 3850, 15371, 15372, 15373} {
		for _, log := range []int{math.MinInt, -1, 0, 2, 3, 4, 5, 6, 7, 8, 150, 3999, 4000, 4001, math.MaxInt} {
			d, other := diskOf(t, sectors), diskOf(t, sectors)
			got, want := Make(d, log), byHand(other, log)
			answers(t, "P11.1: Make", got, want)
			if !slices.Equal(d.Sectors(), other.Sectors()) || len(d.Pending()) > 0 {
				t.Errorf("P11.1: Make(%d) of %d sectors: other sectors", log, sectors)
			}
			seen[got]++
			if got != api.OK {
				continue
			}
			b := &both{t, d, opened(t, d), &machine{}, dataPages(sectors, log)}
			b.same("P11.1: a store that was made")
		}
	}
	if seen[api.OK] < 10 || seen[api.ErrArg] < 10 || seen[api.ErrBig] < 4 {
		t.Errorf("P11.1: seen %v", seen)
	}
}

// TestP11_1MakeErrors: those that the chapter's layers name, one by one.
func TestP11_1MakeErrors(t *testing.T) {
	for _, x := range []struct {
		what         string
		sectors, log int
		want         api.Errno
	}{
		{"no log", 300, 2, api.ErrArg},
		{"too long a log", 5000, 4001, api.ErrArg},
		{"no room for a page", 12, 10, api.ErrArg},
		{"two pages", 13, 9, api.ErrArg},
		{"two pages, one at once", 7, 3, api.ErrArg},
		{"three pages, one at once", 8, 3, api.ErrBig},
		{"three pages, two at once", 9, 4, api.OK},
		{"two pages of bits, two at once", 3847, 4, api.ErrBig},
		{"two pages of bits, three at once", 3848, 5, api.OK},
		{"five pages of bits, five at once", 15370, 7, api.ErrBig},
		{"five pages of bits, six at once", 15371, 8, api.OK},
	} {
		answers(t, "P11.1: "+x.what, Make(diskOf(t, x.sectors), x.log), x.want)
	}
	answers(t, "P11.1: no disk, no log", Make(nil, -1), api.ErrNil)
	d := diskOf(t, 300)
	d.Off()
	answers(t, "P11.1: the power is off", Make(d, 20), api.ErrDead)
	answers(t, "P11.1: the power is off, no log", Make(d, 2), api.ErrArg)
}

// TestP11_1MakeOver: what a disk had is there no more.
func TestP11_1MakeOver(t *testing.T) {
	b := bothOf(t, 300, 60)
	b.put("a", text(1, 2000))
	b.commit()
	answers(t, "P11.1: Make again", Make(b.d, 70), api.OK)
	b.m, b.data = &machine{}, dataPages(300, 70)
	b.anew()
	b.same("P11.1: made again")
}

// TestP11_1Open: the errors of the layers below, and no store with them.
func TestP11_1Open(t *testing.T) {
	made := func() *disk.Disk { return bothOf(t, 300, 60).d }
	for what, x := range map[string]struct {
		d    *disk.Disk
		want api.Errno
	}{
		"no disk":         {nil, api.ErrNil},
		"zeros":           {diskOf(t, 300), api.ErrNoLog},
		"one sector":      {diskOf(t, 1), api.ErrArg},
		"a log alone":     {turned(t, diskOf(t, 300), func(d *disk.Disk) { wal.Format(d, 60) }), api.ErrNoPages},
		"too few pages":   {turned(t, diskOf(t, 64), func(d *disk.Disk) { wal.Format(d, 60) }), api.ErrArg},
		"a page rotted":   {turned(t, made(), func(d *disk.Disk) { spoil(t, d, 62) }), api.ErrRot},
		"bits rotted":     {turned(t, made(), func(d *disk.Disk) { spoil(t, d, 63) }), api.ErrRot},
		"heads rotted":    {turned(t, made(), func(d *disk.Disk) { spoil(t, d, 0); spoil(t, d, 1) }), api.ErrNoLog},
		"the power off":   {turned(t, made(), (*disk.Disk).Off), api.ErrDead},
		"all is well":     {made(), api.OK},
		"one sector, off": {turned(t, diskOf(t, 1), (*disk.Disk).Off), api.ErrDead},
	} {
		s, e := Open(x.d)
		answers(t, "P11.1: Open: "+what, e, x.want)
		if (s == nil) != (x.want != api.OK) {
			t.Errorf("P11.1: Open: %s: a store, or none", what)
		}
	}
}

// turned is a disk to which something was done.
func turned(t *testing.T, d *disk.Disk, do func(*disk.Disk)) *disk.Disk {
	t.Helper()
	if e := checkpointed(d); e != api.OK && e != api.ErrNoLog && e != api.ErrArg {
		t.Fatalf("Checkpoint: %d", e)
	}
	do(d)
	return d
}

// checkpointed brings home what is in a disk's log.
func checkpointed(d *disk.Disk) api.Errno {
	_, e := wal.Open(d)
	return e
}

// spoil changes a sector, so that it is no frame any more.
func spoil(t *testing.T, d *disk.Disk, n int) {
	t.Helper()
	x, e := d.Read(n)
	answers(t, "Read", e, api.OK)
	x[100] ^= 1
	answers(t, "Write", d.Write(n, x), api.OK)
	answers(t, "Flush", d.Flush(), api.OK)
}

// TestP11_1OpenAtHand: an Open has what is committed at hand, and none of what is at hand elsewhere.
func TestP11_1OpenAtHand(t *testing.T) {
	b := bothOf(t, 300, 60)
	b.put("a", "1")
	b.put("b", text(3, 4000))
	b.commit()
	b.put("c", "3")
	b.remove("a")
	b.anew()
	b.same("P11.1: opened anew")
	b.anew()
	b.same("P11.1: and again")
}

// TestP11_2Wrong: wrong arguments change nothing.
func TestP11_2Wrong(t *testing.T) {
	b := bothOf(t, 300, 60)
	b.put("a", "1")
	long := strings.Repeat("k", 201)
	for _, k := range []string{"", long} {
		v, there, e := b.s.Get(k)
		if v != "" || there || e != api.ErrArg {
			t.Errorf("P11.2: Get of no key: %q, %v, %d", v, there, e)
		}
		was, e := b.s.Delete(k)
		if was || e != api.ErrArg {
			t.Errorf("P11.2: Delete of no key: %v, %d", was, e)
		}
		b.put(k, "x")
		b.put(k, text(1, 4001))
	}
	b.put("b", text(1, 4001))
	l, e := b.s.List("", "", -1)
	if len(l) > 0 || e != api.ErrArg {
		t.Errorf("P11.2: List of fewer than none: %q, %d", l, e)
	}
	b.same("P11.2: wrong arguments")
	b.put(long[:200], text(1, 4000))
	b.same("P11.2: the longest of both")
}

// TestP11_2Full: with too few free pages there is no Put but over a value that takes as many pages, and every Delete.
func TestP11_2Full(t *testing.T) {
	b := bothOf(t, 160, 40)
	b.put("over", text(1, 900))
	n := 0
	for ; n < 200 && b.put(text(n*89, 150), text(n, 500)) == api.OK; n++ {
		if n%5 == 0 {
			b.commit()
		}
	}
	if n < 5 || n == 200 {
		t.Errorf("P11.2: full behind %d", n)
	}
	b.put("over", text(2, 952))
	b.put("over", text(2, 953))
	b.same("P11.2: full")
	b.commit()
	for _, k := range keys(b.m.now, "", "") {
		b.remove(k)
		b.commit()
	}
	b.same("P11.2: all is taken out")
	b.put("again", text(1, 4000))
	b.anew()
	b.same("P11.2: opened anew")
}

// TestP11_2Root: the store's tree hangs on root 0; what lies on other roots stays.
func TestP11_2Root(t *testing.T) {
	b := bothOf(t, 300, 60)
	b.put("a", "1")
	b.commit()
	p := b.s.now.pager
	for i := range api.Roots {
		if n, e := p.Root(i); (n != 0) != (i == 0) || e != api.OK {
			t.Errorf("P11.2: root %d: %d, %d", i, n, e)
		}
	}
}

// TestR3List: what List has answered is the caller's.
func TestR3List(t *testing.T) {
	b := bothOf(t, 300, 60)
	b.put("a", "1")
	b.put("b", "2")
	l, _ := b.s.List("", "", 9)
	l[0], l[1] = "x", "y"
	b.same("R3: a list that is changed")
	b.commit()
	b.anew()
	b.same("R3: a list that is changed")
}

// TestR4Nil: of no store nothing is told.
func TestR4Nil(t *testing.T) {
	var s *Store
	v, there, e := s.Get("")
	was, e1 := s.Delete("")
	l, e2 := s.List("", "", -1)
	for _, e := range []api.Errno{e, e1, e2, s.Put("", text(1, 4001)), s.Commit(), s.Rollback()} {
		answers(t, "R4: of no store", e, api.ErrNil)
	}
	if v != "" || there || was || l != nil || s.Free() != 0 || told(s.All("")) != nil {
		t.Error("R4: something is told of no store")
	}
}
