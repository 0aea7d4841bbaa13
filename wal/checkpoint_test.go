package wal

import (
	"slices"
	"testing"

	"ciborium/api"
	"ciborium/disk"
)

// TestP8_5Checkpoint: what it writes and in which order: each page once, with what the last record has, rising.
func TestP8_5Checkpoint(t *testing.T) {
	for _, x := range []struct {
		g     uint64
		ahead [][]api.Image
		homes []int
	}{
		{1, [][]api.Image{to('A', 2)}, []int{2}},
		{2, [][]api.Image{to('A', 4, 1, 3)}, []int{1, 3, 4}},
		{7, [][]api.Image{to('A', 4, 1), to('B', 1, 0), to('C', 1)}, []int{0, 1, 4}},
		{8, [][]api.Image{to('A', 0, 1, 2, 3, 4), to('B', 4, 3, 2, 1, 0), {{Page: 2}}}, []int{0, 1, 2, 3, 4}},
		{1<<32 - 1, [][]api.Image{to('A', 2, 0)}, []int{0, 2}},
	} {
		start := laid(20, 5, x.g, 'a')
		r := opened(start)
		last := map[int]api.Page{}
		for _, w := range x.ahead {
			r.commit(w)
			for _, image := range w {
				last[image.Page] = image.Data
			}
		}
		var want []op
		for _, p := range x.homes {
			want = append(want, op{2 + 20 + p, castHome(x.g, p, last[p])})
		}
		want = append(want, flush, op{int((x.g + 1) % 2), castHead(x.g+1, 20, 5)}, flush)
		does(t, "P8.5: Checkpoint", func(t *testing.T) (*disk.Disk, func() api.Errno) {
			d, l := openedOn(t, start)
			for _, w := range x.ahead {
				answers(t, "P8.4: Commit", l.Commit(w), api.OK)
			}
			return d, l.Checkpoint
		}, want)

		d, l := openedOn(t, start)
		for _, w := range x.ahead {
			answers(t, "P8.4: Commit", l.Commit(w), api.OK)
		}
		answers(t, "P8.5: Checkpoint", l.Checkpoint(), api.OK)
		tells(t, l, 5, 20, x.g+1)
		r.checkpoint()
		same(t, "P8.5: Checkpoint", d, l, r)
		untouched(t, "P8.5: Checkpoint again", d, l, l.Checkpoint, api.OK)
		same(t, "P8.2: Open behind it", d, openOf(t, d), r)
	}
}

// TestP8_5Empty: of an empty log nothing is done, behind Format, Open and a Checkpoint.
func TestP8_5Empty(t *testing.T) {
	d, l := openedOn(t, formatted(5, 5))
	for range 3 {
		untouched(t, "P8.5: Checkpoint of an empty log", d, l, l.Checkpoint, api.OK)
	}
	tells(t, l, 5, 5, 1)
	answers(t, "P8.4: Commit", l.Commit(to('A', 1)), api.OK)
	l = openOf(t, d)
	untouched(t, "P8.5: Checkpoint behind Open", d, l, l.Checkpoint, api.OK)
	tells(t, l, 5, 5, 2)
}

// TestP8_5Heads: the heads are written in turn, and the one ahead stays.
func TestP8_5Heads(t *testing.T) {
	d, l := openedOn(t, formatted(5, 5))
	for g := uint64(2); g < 12; g++ {
		answers(t, "P8.4: Commit", l.Commit(to(byte(g), 1)), api.OK)
		answers(t, "P8.5: Checkpoint", l.Checkpoint(), api.OK)
		s := d.Sectors()
		if s[g%2] != castHead(g, 5, 5) || s[(g+1)%2] != castHead(g-1, 5, 5) {
			t.Errorf("P8.5: behind the checkpoint to %d the heads are others", g)
		}
		if s[8] != castHome(g-1, 1, to(byte(g), 1)[0].Data) {
			t.Errorf("P8.5: behind the checkpoint to %d the home is another", g)
		}
		tells(t, l, 5, 5, g)
	}
}

// TestP8_6Room: what is free, behind Commits of some sizes, and the generation.
func TestP8_6Room(t *testing.T) {
	_, l := openedOn(t, formatted(10, 7))
	for _, x := range []struct {
		w    []api.Image
		room int
		g    uint64
	}{
		{nil, 10, 1}, {to('A', 0), 7, 1}, {to('A', 0), 4, 1}, {to('A', 6), 1, 1}, {nil, 1, 1},
		{to('A', 1), 7, 2}, {to('A', 1, 2, 3, 4, 5), 0, 2}, {nil, 0, 2}, {to('A', 5, 6), 6, 3},
		{to('A', 0, 1, 2, 3, 4, 5), 2, 4}, {to('A', 0, 1, 2, 3, 4, 5, 6), 1, 5}, {to('A', 0, 1, 2, 3, 4, 5, 6), 1, 6},
	} {
		answers(t, "P8.4: Commit", l.Commit(x.w), api.OK)
		tells(t, l, 7, x.room, x.g)
	}
	answers(t, "P8.5: Checkpoint", l.Checkpoint(), api.OK)
	tells(t, l, 7, 10, 7)
	answers(t, "P8.5: Checkpoint", l.Checkpoint(), api.OK)
	tells(t, l, 7, 10, 7)
}

// TestP8_6Pages: as many pages as the disk has sectors behind the log.
func TestP8_6Pages(t *testing.T) {
	for _, x := range []struct{ n, log int }{{6, 3}, {7, 3}, {7, 4}, {12, 5}, {300, 150}, {4003, 4000}, {16384, 3}, {16384, 4000}} {
		d, _ := disk.New(x.n)
		answers(t, "P8.1: Format", Format(d, x.log), api.OK)
		l := openOf(t, d)
		tells(t, l, x.n-x.log-2, x.log, 1)
		last := l.Pages() - 1
		answers(t, "P8.4: Commit", l.Commit(to('A', last)), api.OK)
		tells(t, l, x.n-x.log-2, x.log-3, 1)
		answers(t, "P8.5: Checkpoint", l.Checkpoint(), api.OK)
		if s, _ := d.Read(x.n - 1); s != castHome(1, last, to('A', last)[0].Data) {
			t.Errorf("P8.6: the home of page %d of %d is elsewhere", last, x.n)
		}
	}
}

// TestP8_6AskingChangesNothing: asking is no operation, and leaves all as it is.
func TestP8_6AskingChangesNothing(t *testing.T) {
	d, l := openedOn(t, laid(9, 4, 3, 'a'))
	answers(t, "P8.4: Commit", l.Commit(to('A', 2, 0)), api.OK)
	before := d.Sectors()
	answers(t, "Arm", d.Arm(1), api.OK)
	for range 3 {
		for p := -1; p <= 4; p++ {
			l.Read(p)
		}
		tells(t, l, 4, 5, 3)
	}
	if d.Dead() || !slices.Equal(d.Sectors(), before) {
		t.Errorf("P8.6: asking does something to the disk")
	}
}
