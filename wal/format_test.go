package wal

import (
	"math"
	"slices"
	"testing"

	"ciborium/api"
	"ciborium/disk"
)

// formatOps is what a Format does.
func formatOps(log, pages int) []op {
	var ops []op
	for i := range 2 + log {
		ops = append(ops, op{sector: i})
	}
	ops = append(ops, flush)
	for p := range pages {
		ops = append(ops, op{2 + log + p, castHome(1, p, api.Page{})})
	}
	return append(ops, flush, op{1, castHead(1, log, pages)}, flush)
}

// usedDisk is a disk on which a log of other measures lived, with records in it.
func usedDisk(n int) []api.Sector {
	l := make([]api.Sector, n)
	for i := range l {
		l[i] = castImage(1, 0, i, of(byte(i+1)))
	}
	copy(l, laid(n-4, 2, 6, 'a', castRecord(6, 0, to('o', 1))...))
	l[1] = castHead(5, n-4, 2)
	return l
}

// TestP8_1Format: what it writes and in which order, on disks that are zero and on such as were used.
func TestP8_1Format(t *testing.T) {
	for _, x := range []struct{ log, pages int }{{3, 1}, {3, 4}, {5, 5}, {8, 2}} {
		n := 2 + x.log + x.pages
		fresh := make([]api.Sector, n)
		for _, start := range [][]api.Sector{fresh, usedDisk(max(n, 7))[:n]} {
			does(t, "P8.1: Format", func(t *testing.T) (*disk.Disk, func() api.Errno) {
				d := loaded(t, start)
				return d, func() api.Errno { return Format(d, x.log) }
			}, formatOps(x.log, x.pages))
			d := loaded(t, start)
			answers(t, "P8.1: Format", Format(d, x.log), api.OK)
			if !slices.Equal(d.Sectors(), formatted(x.log, x.pages)) {
				t.Errorf("P8.1: Format(%d) of %d sectors leaves others", x.log, n)
			}
			l := openOf(t, d)
			tells(t, l, x.pages, x.log, 1)
			for p := range x.pages {
				reads(t, l, p, api.Page{}, api.OK)
			}
		}
	}
}

// TestP8_1FormatEdges: how long the log may be, and how many sectors the disk must have; where they are wrong nothing is done.
func TestP8_1FormatEdges(t *testing.T) {
	for _, x := range []struct {
		n, log int
		want   api.Errno
	}{
		{6, 3, api.OK}, {5, 3, api.ErrArg}, {6, 2, api.ErrArg}, {6, 4, api.ErrArg}, {7, 4, api.OK},
		{4003, 4000, api.OK}, {4002, 4000, api.ErrArg}, {4004, 4001, api.ErrArg}, {16384, 4000, api.OK}, {16384, 4001, api.ErrArg}, {16384, 3, api.OK},
		{12, 2, api.ErrArg}, {12, 10, api.ErrArg}, {12, 9, api.OK}, {12, 1, api.ErrArg}, {12, 0, api.ErrArg}, {12, -1, api.ErrArg},
		{1, 3, api.ErrArg}, {2, 3, api.ErrArg}, {1, 0, api.ErrArg}, {3, 0, api.ErrArg}, {4, 1, api.ErrArg}, {5, 2, api.ErrArg},
		{16384, math.MaxInt, api.ErrArg}, {16384, math.MinInt, api.ErrArg}, {16384, math.MaxInt - 2, api.ErrArg},
		{16384, 1<<32 + 5, api.ErrArg}, {16384, 1 << 32, api.ErrArg}, {16384, -1 << 32, api.ErrArg}, {12, -3, api.ErrArg},
	} {
		d, _ := disk.New(x.n)
		answers(t, "P8.1: Format", Format(d, x.log), x.want)
		if writes, flushes := d.Counts(); x.want != api.OK {
			if writes != 0 || flushes != 0 {
				t.Errorf("P8.1: Format(%d) of %d sectors does %d writes, %d flushes", x.log, x.n, writes, flushes)
			}
			d.Off()
			answers(t, "P8.1: Format, the power off", Format(d, x.log), x.want)
			continue
		}
		tells(t, openOf(t, d), x.n-2-x.log, x.log, 1)
		if !slices.Equal(d.Sectors(), formatted(x.log, x.n-2-x.log)) {
			t.Errorf("P8.1: Format(%d) of %d sectors leaves others", x.log, x.n)
		}
		d.Off()
		answers(t, "P8.1: Format, the power off", Format(d, x.log), api.ErrDead)
	}
	for _, log := range []int{5, 2, 0, -1, math.MaxInt} {
		answers(t, "P8.1: Format of nil", Format(nil, log), api.ErrNil)
	}
}

// TestP8_1FormatPower: the power goes at each operation; till the head stays there is no log, and with it all is there.
func TestP8_1FormatPower(t *testing.T) {
	const log, pages = 4, 3
	ops := formatOps(log, pages)
	start := usedDisk(2 + log + pages)
	for k := 1; k <= len(ops); k++ {
		for subset := range 1 << 6 {
			keep := func(i int) bool { return subset>>(i%6)&1 != 0 }
			d := loaded(t, start)
			d.Arm(k)
			answers(t, "P8.1: Format, the power going", Format(d, log), api.ErrDead)
			kept := slices.DeleteFunc(d.Pending(), func(i int) bool { return !keep(i) })
			answers(t, "On", d.On(kept), api.OK)
			want := after(start, ops[:k], keep)
			if !slices.Equal(d.Sectors(), want) {
				t.Fatalf("P8.1: behind a power that goes at %d other sectors stand", k)
			}
			if k <= 2+log+1 {
				continue
			}
			l, e := Open(d)
			if want[1] == castHead(1, log, pages) {
				answers(t, "P8.1: Open, the head stays", e, api.OK)
				tells(t, l, pages, log, 1)
				for p := range pages {
					reads(t, l, p, api.Page{}, api.OK)
				}
			} else {
				answers(t, "P8.1: Open, the head does not stay", e, api.ErrNoLog)
			}
		}
	}
}
