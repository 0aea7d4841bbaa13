package wal

import (
	"math/rand"
	"slices"
	"testing"

	"ciborium/api"
	"ciborium/disk"
)

// keyOf is what tells two disks apart.
func keyOf(l []api.Sector) string {
	b := make([]byte, 0, len(l)*api.SectorBytes)
	for _, s := range l {
		b = append(b, s[:]...)
	}
	return string(b)
}

// subsets are all that may stay of what is pending.
func subsets(pending []int) [][]int {
	all := [][]int{nil}
	for _, i := range pending {
		for _, l := range all[:len(all):len(all)] {
			all = append(all, append(slices.Clone(l), i))
		}
	}
	return all
}

// failures are all disks that a power leaves which goes somewhere in what act does to the disk l; and the one that it leaves where it does not.
func failures(t *testing.T, l []api.Sector, act func(d *disk.Disk) api.Errno) (left [][]api.Sector, whole []api.Sector) {
	t.Helper()
	for k := 1; ; k++ {
		d := loaded(t, l)
		d.Arm(k)
		e := act(d)
		if !d.Dead() {
			answers(t, "P8.7: without a failure", e, api.OK)
			return left, d.Sectors()
		}
		answers(t, "P8.7: a failure", e, api.ErrDead)
		for _, keep := range subsets(d.Pending()) {
			again := loaded(t, l)
			again.Arm(k)
			act(again)
			answers(t, "On", again.On(keep), api.OK)
			left = append(left, again.Sectors())
		}
	}
}

// opening is what is done where a disk is opened.
func opening(d *disk.Disk) api.Errno {
	_, e := Open(d)
	return e
}

// contents are all pages that an Open finds.
func contents(t *testing.T, l []api.Sector) []api.Page {
	t.Helper()
	_, log := openedOn(t, l)
	var all []api.Page
	for p := range log.Pages() {
		x, e := log.Read(p)
		answers(t, "P8.7: Read", e, api.OK)
		all = append(all, x)
	}
	return all
}

// with is pages behind what images write.
func with(pages []api.Page, w []api.Image) []api.Page {
	all := slices.Clone(pages)
	for _, x := range w {
		all[x.Page] = x.Data
	}
	return all
}

// settled holds all disks against what may be found on them, and all that come of them by a power that goes in an Open, however often: each tells the old pages or the new ones, and the one that it tells does not change. It answers them all, each once.
func settled(t *testing.T, work [][]api.Sector, old, new []api.Page) [][]api.Sector {
	t.Helper()
	var all [][]api.Sector
	seen := map[string]bool{}
	for len(work) > 0 {
		l := work[0]
		work = work[1:]
		if seen[keyOf(l)] {
			continue
		}
		seen[keyOf(l)] = true
		all = append(all, l)
		if len(all) > 200 {
			t.Fatalf("P8.7: Opens never come to an end")
		}
		found := contents(t, l)
		if !slices.Equal(found, old) && !slices.Equal(found, new) {
			t.Fatalf("P8.7: behind a failure neither all images are there nor none")
		}
		more, whole := failures(t, l, opening)
		for _, m := range append(more, whole) {
			if !slices.Equal(contents(t, m), found) {
				t.Fatalf("P8.7: an Open changes what is found")
			}
		}
		work = append(append(work, more...), whole)
	}
	return all
}

// committingTo is an Open, and a Commit behind it.
func committingTo(w []api.Image) func(d *disk.Disk) api.Errno {
	return func(d *disk.Disk) api.Errno {
		l, e := Open(d)
		if e != api.OK {
			return e
		}
		return l.Commit(w)
	}
}

// behind is what stands on a disk on which l was, and Commits were done.
func behind(t *testing.T, l []api.Sector, all [][]api.Image) []api.Sector {
	t.Helper()
	d, log := openedOn(t, l)
	for _, w := range all {
		answers(t, "P8.4: Commit", log.Commit(w), api.OK)
	}
	return d.Sectors()
}

// failuresOpen are all disks that a power leaves which goes somewhere in a Commit to a log that goes on, with others in it.
func failuresOpen(t *testing.T, start []api.Sector, ahead [][]api.Image, w []api.Image) [][]api.Sector {
	t.Helper()
	var left [][]api.Sector
	for k := 1; ; k++ {
		d, l := openedOn(t, start)
		for _, x := range ahead {
			answers(t, "P8.4: Commit", l.Commit(x), api.OK)
		}
		d.Arm(k)
		if l.Commit(w) == api.OK {
			return left
		}
		before, pending := d.Sectors(), d.Pending()
		d.On(pending)
		written := d.Sectors()
		for _, keep := range subsets(pending) {
			one := slices.Clone(before)
			for _, i := range keep {
				one[i] = written[i]
			}
			left = append(left, one)
		}
	}
}

// TestP8_7AllOrNone: the power goes at every operation of a Commit, of the Checkpoint in it and of the Open behind it, again and again, any of the pending staying; then so in a second Commit on each disk that was left.
func TestP8_7AllOrNone(t *testing.T) {
	for _, x := range []struct {
		what       string
		log, pages int
		ahead      [][]api.Image
		w, second  []api.Image
	}{
		{"in an empty log", 5, 3, nil, to('W', 2, 0), to('V', 0, 2)},
		{"in an empty log, the second one shorter", 6, 3, nil, to('W', 2, 0, 1), to('V', 1)},
		{"in an empty log, the second one longer", 6, 3, nil, to('W', 1), to('V', 1, 0, 2)},
		{"behind another", 8, 3, [][]api.Image{to('A', 1)}, to('W', 1, 2), to('V', 2)},
		{"with a checkpoint", 5, 3, [][]api.Image{to('A', 1, 0)}, to('W', 0, 2), to('V', 1)},
		{"with a checkpoint behind some", 7, 4, [][]api.Image{to('A', 1), to('B', 1, 0)}, to('W', 0, 1), to('V', 0, 3)},
		{"in the shortest log", 3, 1, [][]api.Image{to('A', 0)}, to('W', 0), to('V', 0)},
	} {
		fresh := laid(x.log, x.pages, 4, 'a')
		start := behind(t, fresh, x.ahead)
		old := contents(t, start)
		new := with(old, x.w)
		left, whole := failures(t, start, committingTo(x.w))
		if !slices.Equal(contents(t, whole), new) {
			t.Fatalf("P8.7: Commit %s is not there", x.what)
		}
		for _, l := range settled(t, append(left, whole), old, new) {
			found := contents(t, l)
			left, whole := failures(t, l, committingTo(x.second))
			settled(t, append(left, whole), found, with(found, x.second))
		}
		settled(t, failuresOpen(t, fresh, x.ahead, x.w), old, new)
	}
}

// TestP8_7EndStays: a record whose end stays is there, though the Commit answered ErrDead; one whose end does not stay is not.
func TestP8_7EndStays(t *testing.T) {
	for _, stays := range []bool{false, true} {
		for _, k := range []int{4, 5} {
			d, l := openedOn(t, laid(8, 3, 4, 'a'))
			d.Arm(k)
			answers(t, "P8.4: Commit, the power going", l.Commit(to('W', 1)), api.ErrDead)
			if !slices.Equal(d.Pending(), []int{4}) {
				t.Errorf("P8.4: the end is not all that is pending: %v", d.Pending())
			}
			keep := []int(nil)
			want, g := of('a'+1), uint64(4)
			if stays {
				keep, want, g = d.Pending(), to('W', 1)[0].Data, 5
			}
			d.On(keep)
			l = openOf(t, d)
			reads(t, l, 1, want, api.OK)
			tells(t, l, 3, 8, g)
		}
	}
}

// TestP8_7AnyRows: long rows of Commits and Checkpoints in which the power goes now and then, also in the Opens behind it: all of a Commit is there or none, and what was committed before stays.
func TestP8_7AnyRows(t *testing.T) {
	r := rand.New(rand.NewSource(87))
	for range 80 {
		log, pages := r.Intn(16)+3, r.Intn(8)+1
		start := laid(log, pages, uint64(r.Intn(5)+1), 'a')
		d, l := openedOn(t, start)
		want := contents(t, start)
		for range 60 {
			if r.Intn(2) == 0 {
				d.Arm(r.Intn(14) + 1)
			}
			w := to(byte(r.Intn(256)), r.Perm(pages)[:r.Intn(min(pages, log-2))+1]...)
			var e api.Errno
			if r.Intn(6) == 0 {
				w = nil
				e = l.Checkpoint()
			} else {
				e = l.Commit(w)
			}
			if e == api.OK {
				want = with(want, w)
				if r.Intn(5) == 0 {
					// The power goes between two calls.
					d.Off()
					d.On(nil)
					l, want = found(t, r, d, want, want)
				}
				continue
			}
			answers(t, "P8.7: a failure", e, api.ErrDead)
			answers(t, "On", d.On(drawn(r, d.Pending())), api.OK)
			l, want = found(t, r, d, want, with(want, w))
		}
	}
}

// drawn are some of what is pending.
func drawn(r *rand.Rand, pending []int) []int {
	return slices.DeleteFunc(pending, func(int) bool { return r.Intn(2) == 0 })
}

// found is the log that is there at last on a disk on which the power goes again while it is opened, and what it has: the old pages, or the new ones.
func found(t *testing.T, r *rand.Rand, d *disk.Disk, old, new []api.Page) (*Log, []api.Page) {
	t.Helper()
	for range r.Intn(4) {
		d.Arm(r.Intn(9) + 1)
		if _, e := Open(d); e == api.ErrDead {
			answers(t, "On", d.On(drawn(r, d.Pending())), api.OK)
		}
	}
	d.Arm(0)
	l := openOf(t, d)
	var all []api.Page
	for p := range l.Pages() {
		x, e := l.Read(p)
		answers(t, "P8.7: Read", e, api.OK)
		all = append(all, x)
	}
	if !slices.Equal(all, old) && !slices.Equal(all, new) {
		t.Fatalf("P8.7: behind a failure neither all images are there nor none")
	}
	return l, all
}

// TestP8_7Reckoned: behind each failure just those sectors stand that are reckoned, and Open finds in them what is reckoned.
func TestP8_7Reckoned(t *testing.T) {
	r := rand.New(rand.NewSource(870))
	for range 400 {
		log, pages := r.Intn(12)+3, r.Intn(6)+1
		start := laid(log, pages, uint64(r.Intn(5)+1), 'a')
		want := opened(start)
		d, l := openedOn(t, start)
		draw := func() []api.Image {
			return to(byte(r.Intn(256)), r.Perm(pages)[:r.Intn(min(pages, log-2))+1]...)
		}
		for range r.Intn(6) {
			w := draw()
			want.commit(w)
			answers(t, "P8.4: Commit", l.Commit(w), api.OK)
		}
		flat, w := want.flat, draw()
		ops := want.commit(w)
		k := r.Intn(len(ops)) + 1
		d.Arm(k)
		answers(t, "P8.7: a failure", l.Commit(w), api.ErrDead)
		keep := drawn(r, d.Pending())
		answers(t, "On", d.On(keep), api.OK)
		behind := after(flat, ops[:k], func(i int) bool { return slices.Contains(keep, i) })
		if !slices.Equal(d.Sectors(), behind) {
			t.Fatalf("P8.7: behind a failure at %d other sectors stand", k)
		}
		opens(t, "behind a failure", behind, len(opened(behind).records))
	}
}
