package wal

import (
	"fmt"
	"math/rand"
	"slices"
	"testing"

	"ciborium/api"
	"ciborium/disk"
)

// commits does Commits that answer OK, one behind the other, and holds each against what is reckoned.
func commits(t *testing.T, d *disk.Disk, l *Log, r *reckon, all ...[]api.Image) {
	t.Helper()
	for _, w := range all {
		r.commit(w)
		answers(t, "P8.4: Commit", l.Commit(w), api.OK)
		same(t, fmt.Sprintf("P8.4: Commit of %d images", len(w)), d, l, r)
	}
}

// TestP8_4Commit: what lies in the log behind it, frame by frame.
func TestP8_4Commit(t *testing.T) {
	start := laid(12, 5, 6, 'a')
	d, l := openedOn(t, start)
	r := opened(start)
	commits(t, d, l, r, to('A', 3, 1), to('B', 1, 4, 0))
	got := d.Sectors()[2:14]
	want := slices.Concat(castRecord(6, 0, to('A', 3, 1)), castRecord(6, 1, to('B', 1, 4, 0)), make([]api.Sector, 3))
	if !slices.Equal(got, want) {
		t.Errorf("P8.4: in the log are others")
	}
	tells(t, l, 5, 3, 6)
	// Just enough room, and then none: the log is begun anew.
	commits(t, d, l, r, to('C', 2))
	tells(t, l, 5, 0, 6)
	commits(t, d, l, r, to('D', 2))
	tells(t, l, 5, 9, 7)
	if !slices.Equal(d.Sectors()[2:5], castRecord(7, 0, to('D', 2))) {
		t.Errorf("P8.4: a record behind a checkpoint is another one")
	}
	if !slices.Equal(d.Sectors()[5:14], slices.Concat(want[3:9], castRecord(6, 2, to('C', 2)))) {
		t.Errorf("P8.4: what no record has is changed")
	}
}

// TestP8_4Order: what a Commit does, operation by operation: alone, behind others, with a Checkpoint ahead of it and with just enough room.
func TestP8_4Order(t *testing.T) {
	for _, x := range []struct {
		what  string
		log   int
		ahead [][]api.Image
		w     []api.Image
		n     int // operations
	}{
		{"in an empty log", 12, nil, to('W', 3, 0, 2), 4 + 3},
		{"in a log that it fills", 5, nil, to('W', 3, 0, 2), 4 + 3},
		{"behind another", 12, [][]api.Image{to('A', 1)}, to('W', 3, 1), 4 + 2},
		{"with just enough room", 6, [][]api.Image{to('A', 1)}, to('W', 3), 4 + 1},
		{"with a sector too few", 5, [][]api.Image{to('A', 1)}, to('W', 3), 1 + 3 + 4 + 1},
		{"with two sectors too few", 4, [][]api.Image{to('A', 1)}, to('W', 3), 1 + 3 + 4 + 1},
		{"in a log that is full", 3, [][]api.Image{to('A', 1)}, to('W', 1), 1 + 3 + 4 + 1},
		{"with many pages to bring home", 14, [][]api.Image{to('A', 4, 1), to('B', 2, 1, 0), to('C', 4)}, to('W', 1, 4), 4 + 3 + 4 + 2},
		{"behind a checkpoint", 6, [][]api.Image{to('A', 4, 1), to('B', 2, 0)}, to('W', 1), 3 + 2 + 4 + 1},
	} {
		start := laid(x.log, 5, 6, 'a')
		r := opened(start)
		for _, w := range x.ahead {
			r.commit(w)
		}
		want := r.commit(x.w)
		if len(want) != x.n {
			t.Errorf("P8.4: reckoned are %d operations, not %d", len(want), x.n)
		}
		does(t, "P8.4: Commit "+x.what, func(t *testing.T) (*disk.Disk, func() api.Errno) {
			d, l := openedOn(t, start)
			for _, w := range x.ahead {
				answers(t, "P8.4: Commit", l.Commit(w), api.OK)
			}
			return d, func() api.Errno { return l.Commit(x.w) }
		}, want)
	}
}

// untouched: a call does nothing to the disk, and all is told as before.
func untouched(t *testing.T, what string, d *disk.Disk, l *Log, call func() api.Errno, want api.Errno) {
	t.Helper()
	before, writes, flushes := d.Sectors(), 0, 0
	writes, flushes = d.Counts()
	pages, room, g := l.Pages(), l.Room(), l.Generation()
	answers(t, what, call(), want)
	w, f := d.Counts()
	if w != writes || f != flushes || len(d.Pending()) != 0 || !slices.Equal(d.Sectors(), before) {
		t.Errorf("%s does something to the disk", what)
	}
	tells(t, l, pages, room, g)
}

// TestP8_4CommitNone: without images nothing is done, however full the log is.
func TestP8_4CommitNone(t *testing.T) {
	d, l := openedOn(t, laid(3, 2, 1, 'a'))
	for range 2 {
		for _, none := range [][]api.Image{nil, {}, to('A', 1)[:0]} {
			untouched(t, "P8.4: Commit of none", d, l, func() api.Errno { return l.Commit(none) }, api.OK)
		}
		answers(t, "P8.4: Commit", l.Commit(to('A', 1)), api.OK)
	}
}

// TestP8_4CommitWrong: of no page, and of a page twice; nothing is done, and the log goes on.
func TestP8_4CommitWrong(t *testing.T) {
	const n = 200
	start := laid(150, n, 4, 'a')
	d, l := openedOn(t, start)
	r := opened(start)
	commits(t, d, l, r, to('A', 3))
	var wrong [][]api.Image
	for _, p := range strange(n) {
		wrong = append(wrong, to('X', p), to('X', 1, p), to('X', p, 1), to('X', 0, 1, p, 2))
	}
	wrong = append(wrong, to('X', 0, 0), to('X', 1, 0, 1), to('X', 199, 5, 199), to('X', append(upTo(119), 60)...))
	// Too many, too, but that is said behind it.
	wrong = append(wrong, to('X', append(upTo(120), 119)...), to('X', append(upTo(200), 0)...), to('X', append(upTo(200), 200)...), to('X', append([]int{-1}, upTo(200)...)...))
	for _, w := range wrong {
		untouched(t, fmt.Sprintf("P8.4: Commit of %d images", len(w)), d, l, func() api.Errno { return l.Commit(w) }, api.ErrArg)
	}
	same(t, "P8.4: behind them", d, l, r)
	commits(t, d, l, r, to('B', 0, 199), to('C', 199))
}

// TestP8_4CommitBig: as many images as there may be, and one more, in logs of all lengths that matter.
func TestP8_4CommitBig(t *testing.T) {
	const n = 130
	for _, x := range []struct{ log, most int }{{3, 1}, {4, 2}, {5, 3}, {7, 5}, {121, 119}, {122, 120}, {123, 120}, {124, 120}, {200, 120}, {4000, 120}} {
		start := laid(x.log, n, 4, 'a')
		d, l := openedOn(t, start)
		r := opened(start)
		for _, more := range []int{1, 2, n - x.most} {
			w := to('X', upTo(x.most+more)...)
			untouched(t, fmt.Sprintf("P8.4: Commit of %d in a log of %d", len(w), x.log), d, l, func() api.Errno { return l.Commit(w) }, api.ErrBig)
		}
		commits(t, d, l, r, to('A', upTo(x.most)...))
		untouched(t, "P8.4: Commit of too many", d, l, func() api.Errno { return l.Commit(to('X', upTo(x.most+1)...)) }, api.ErrBig)
		back := upTo(n)[n-x.most:]
		slices.Reverse(back)
		commits(t, d, l, r, to('B', back...), to('C', 7))
	}
}

// TestP8_4Same: what stands there already is written all the same.
func TestP8_4Same(t *testing.T) {
	start := laid(9, 3, 4, 'a')
	d, l := openedOn(t, start)
	commits(t, d, l, opened(start), []api.Image{{Page: 1, Data: of('a' + 1)}})
	tells(t, l, 3, 6, 4)
	if !slices.Equal(d.Sectors()[2:5], castRecord(4, 0, []api.Image{{Page: 1, Data: of('a' + 1)}})) {
		t.Errorf("P8.4: an image that changes nothing is not written")
	}
}

// TestP8_4AnyRows: long rows of Commits and Checkpoints that are drawn, with an Open now and then, on disks of some sizes.
func TestP8_4AnyRows(t *testing.T) {
	r := rand.New(rand.NewSource(84))
	for range 60 {
		log, pages := r.Intn(20)+3, r.Intn(9)+1
		start := laid(log, pages, uint64(r.Intn(5)+1), 'a')
		d, l := openedOn(t, start)
		want := opened(start)
		for range 60 {
			switch r.Intn(8) {
			case 0:
				want.checkpoint()
				answers(t, "P8.5: Checkpoint", l.Checkpoint(), api.OK)
			case 1:
				want.checkpoint()
				l = openOf(t, d)
			default:
				w := to(byte(r.Intn(256)), r.Perm(pages)[:r.Intn(min(pages, log-2))+1]...)
				want.commit(w)
				answers(t, "P8.4: Commit", l.Commit(w), api.OK)
			}
			same(t, "P8.4: in a row", d, l, want)
		}
	}
}

// TestP8_4Long: a log of 4000 sectors, filled by Commits of all sizes.
func TestP8_4Long(t *testing.T) {
	start := laid(4000, 140, 1, 'a')
	d, l := openedOn(t, start)
	want := opened(start)
	r := rand.New(rand.NewSource(4000))
	for want.g < 3 {
		n := r.Intn(120) + 1
		w := to(byte(n), r.Perm(140)[:n]...)
		want.commit(w)
		answers(t, "P8.4: Commit", l.Commit(w), api.OK)
		tells(t, l, 140, 4000-want.used(), want.g)
	}
	for want.used() < 3700 {
		w := to('Z', r.Perm(140)[:100]...)
		want.commit(w)
		answers(t, "P8.4: Commit", l.Commit(w), api.OK)
	}
	same(t, "P8.4: a long log", d, l, want)
	want.checkpoint()
	same(t, "P8.2: a long log opened", d, openOf(t, d), want)
}
