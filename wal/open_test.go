package wal

import (
	"encoding/binary"
	"fmt"
	"math"
	"math/rand"
	"slices"
	"testing"

	"ciborium/api"
	"ciborium/disk"
)

// opens: Open finds in l what is reckoned, and so many records.
func opens(t *testing.T, what string, l []api.Sector, records int) {
	t.Helper()
	d := loaded(t, l)
	log, e := Open(d)
	r := opened(l)
	if r == nil || len(r.records) != records {
		t.Fatalf("%s: reckoned is %v", what, r)
	}
	answers(t, "P8.2: Open, "+what, e, api.OK)
	if e != api.OK {
		return
	}
	r.checkpoint()
	same(t, "P8.2: "+what, d, log, r)
}

// opensNone: in l there is no head that holds; nothing is changed.
func opensNone(t *testing.T, what string, l []api.Sector) {
	t.Helper()
	d := loaded(t, l)
	log, e := Open(d)
	if e != api.ErrNoLog || log != nil {
		t.Errorf("P8.2: Open, %s: %d", what, e)
	}
	if writes, flushes := d.Counts(); writes != 0 || flushes != 0 {
		t.Errorf("P8.2: Open, %s, does %d writes, %d flushes", what, writes, flushes)
	}
}

// TestP8_2OpenNone: where no head is.
func TestP8_2OpenNone(t *testing.T) {
	for _, n := range []int{2, 5, 6, 12, 16384} {
		opensNone(t, "zeros", make([]api.Sector, n))
	}
	log, e := Open(nil)
	if e != api.ErrNil || log != nil {
		t.Errorf("P8.2: Open of nil: %d", e)
	}
	// On a disk of one sector the other head can't be read.
	d, _ := disk.New(1)
	log, e = Open(d)
	if e != api.ErrArg || log != nil {
		t.Errorf("P8.2: Open of a disk of one sector: %d", e)
	}
	d = loaded(t, formatted(5, 5))
	d.Off()
	log, e = Open(d)
	if e != api.ErrDead || log != nil {
		t.Errorf("P8.2: Open, the power off: %d", e)
	}
}

// put is s with b from place i on.
func put(s api.Sector, i int, b ...byte) api.Sector {
	copy(s[i:], b)
	return s
}

// wrongHeads are heads for sector g mod 2 of a disk of 12 that do not count there, each for one thing alone; all checks fit, but where the check is what is wrong.
func wrongHeads(g uint64) map[string]api.Sector {
	good := castHead(g, 5, 5)
	wrong := map[string]api.Sector{
		"of another parity":       castHead(g+1, 5, 5),
		"with a number":           cast(1, g, 1, 0, numbers(5, 5)),
		"with a great number":     cast(1, g, 1<<63, 0, numbers(5, 5)),
		"with an index":           cast(1, g, 0, 1, numbers(5, 5)),
		"with a great index":      cast(1, g, 0, 1<<31, numbers(5, 5)),
		"of a log of 2":           castHead(g, 2, 8),
		"of a log of 0":           castHead(g, 0, 10),
		"without pages":           castHead(g, 10, 0),
		"of one page less":        castHead(g, 5, 4),
		"of one page more":        castHead(g, 5, 6),
		"of a log one less":       castHead(g, 4, 5),
		"of a log one more":       castHead(g, 6, 5),
		"turned about":            castHead(g, 7, 4),
		"of a log that is huge":   castHead(g, math.MaxUint32, 11),
		"of a log beyond 2^31":    castHead(g, 1<<31+5, 5-1<<31),
		"of -1 pages":             castHead(g, 11, -1),
		"with something behind":   cast(1, g, 0, 0, numbers(5, 5, 1)),
		"with something at last":  fitted(put(good, 511, 1)),
		"with another check":      put(good, 31, good[31]^1),
		"without a check":         put(good, 28, 0, 0, 0, 0),
		"with a bit turned":       put(good, 300, 4),
		"with all zero but check": put(api.Sector{}, 28, good[28:32]...),
	}
	for i := range 4 {
		wrong[fmt.Sprintf("with another byte %d", i)] = fitted(put(good, i, good[i]^0x20))
	}
	for i := 5; i < 8; i++ {
		wrong[fmt.Sprintf("with a byte %d", i)] = fitted(put(good, i, 1))
	}
	for _, kind := range []byte{0, 2, 3, 4, 5, 6, 255} {
		wrong[fmt.Sprintf("of kind %d", kind)] = cast(kind, g, 0, 0, numbers(5, 5))
	}
	return wrong
}

// TestP8_2HeadWrong: a head that does not count holds neither alone nor ahead of one that counts.
func TestP8_2HeadWrong(t *testing.T) {
	for _, g := range []uint64{8, 9, 1<<40 + 2, 1<<63 + 5} {
		for what, s := range wrongHeads(g) {
			l := laid(5, 5, g, 'a')
			l[g%2] = s
			opensNone(t, what, l)
			l[(g+1)%2] = castHead(g-1, 5, 5)
			opens(t, "the older head, the newer one being "+what, l, 0)
			d, log := openedOn(t, l)
			tells(t, log, 5, 5, g-1)
			if writes, flushes := d.Counts(); writes != 0 || flushes != 0 {
				t.Errorf("P8.2: Open of an empty log does something")
			}
		}
	}
	l := laid(5, 5, 1, 'a')
	l[1] = api.Sector{}
	l[0] = castHead(0, 5, 5)
	opensNone(t, "a head of generation 0", l)
	l[1] = castHead(0, 5, 5)
	opensNone(t, "two heads of generation 0", l)
	for _, g := range []uint64{1, 2, math.MaxUint64, 1 << 63} {
		l := make([]api.Sector, 12)
		l[(g+1)%2] = castHead(g, 5, 5)
		opensNone(t, "a head in the other's sector", l)
	}
}

// TestP8_2HeadEdges: logs as short and as long as they may be, and just not.
func TestP8_2HeadEdges(t *testing.T) {
	for _, x := range []struct {
		log, pages int
		ok         bool
	}{{3, 1, true}, {2, 1, false}, {3, 0, false}, {2, 2, false}, {4000, 1, true}, {4001, 1, false}, {4000, 300, true}, {4001, 300, false}, {1, 9, false}, {0, 4, false}} {
		l := make([]api.Sector, 2+x.log+x.pages)
		l[1] = castHead(1, x.log, x.pages)
		d := loaded(t, l)
		log, e := Open(d)
		if x.ok {
			answers(t, "P8.2: Open", e, api.OK)
			tells(t, log, x.pages, x.log, 1)
		} else {
			answers(t, "P8.2: Open", e, api.ErrNoLog)
		}
	}
}

// TestP8_2HeadsBoth: of two that count the one of the greater generation holds, whichever sector it is in, with its own measures.
func TestP8_2HeadsBoth(t *testing.T) {
	for _, x := range []struct{ g, other uint64 }{{2, 1}, {3, 2}, {8, 5}, {9, 2}, {1 << 32, 1<<32 - 1}, {1<<32 + 1, 1 << 32}, {1 << 63, 1<<63 - 1}, {256, 255}, {1 << 56, 3}, {math.MaxUint64, math.MaxUint64 - 1}} {
		l := laid(5, 5, x.g, 'a')
		l[x.other%2] = castHead(x.other, 6, 4)
		_, log := openedOn(t, l)
		tells(t, log, 5, 5, x.g)
		// What lies in the log by the other generation is no record of this one.
		copy(l[2:], castRecord(x.other, 0, to('X', 1)))
		_, log = openedOn(t, l)
		tells(t, log, 5, 5, x.g)
		reads(t, log, 1, of('a'+1), api.OK)
	}
	l := laid(5, 5, 4, 'a', castRecord(4, 0, to('X', 1, 4))...)
	l[1] = castHead(3, 5, 5)
	opens(t, "a record behind an older head", l, 1)
}

// records are frames of records, one behind the other, (g, 0) and on.
func records(g uint64, all ...[]api.Image) []api.Sector {
	var l []api.Sector
	for s, w := range all {
		l = append(l, castRecord(g, uint64(s), w)...)
	}
	return l
}

// TestP8_2Records: logs with a record, with some, with as many as go in, and with a longest one.
func TestP8_2Records(t *testing.T) {
	one := laid(5, 5, 7, 'a', records(7, to('A', 3))...)
	opens(t, "one record", one, 1)
	_, l := openedOn(t, one)
	tells(t, l, 5, 5, 8)
	reads(t, l, 3, to('A', 3)[0].Data, api.OK)
	reads(t, l, 4, of('a'+4), api.OK)

	some := laid(20, 5, 6, 'a', records(6, to('A', 3, 0), to('B', 1), to('C', 0, 4), to('D', 0))...)
	opens(t, "four records", some, 4)
	_, l = openedOn(t, some)
	tells(t, l, 5, 20, 7)
	for p, want := range []api.Page{to('D', 0)[0].Data, to('B', 1)[0].Data, of('a' + 2), to('A', 3)[0].Data, to('C', 0, 4)[1].Data} {
		reads(t, l, p, want, api.OK)
	}

	opens(t, "a log that is full", laid(9, 3, 1, 'a', records(1, to('A', 0), to('B', 1), to('C', 2))...), 3)
	opens(t, "a log that is full by one record", laid(5, 3, 1, 'a', records(1, to('A', 0, 2, 1))...), 1)
	opens(t, "a log with room for one sector more", laid(7, 3, 1, 'a', records(1, to('A', 0), to('B', 1))...), 2)
	longest := to('L', upTo(120)...)
	opens(t, "a longest record", laid(122, 121, 3, 'a', records(3, longest)...), 1)
	opens(t, "two longest records", laid(300, 121, 3, 'a', records(3, longest, to('M', upTo(120)...))...), 2)
	opens(t, "a longest log", laid(4000, 200, 3, 'a', records(3, longest, to('X', 5), longest)...), 3)
	opens(t, "an image of zeros", laid(5, 3, 1, 'a', records(1, []api.Image{{Page: 1}})...), 1)
	opens(t, "a great generation", laid(8, 3, math.MaxUint64-1, 'a', records(math.MaxUint64-1, to('A', 1), to('B', 2, 0))...), 2)
}

// TestP8_2Checkpoint: the Checkpoint of Open, operation by operation; without a record there is none.
func TestP8_2Checkpoint(t *testing.T) {
	for _, l := range [][]api.Sector{
		laid(12, 6, 6, 'a', records(6, to('A', 5, 0), to('B', 3), to('C', 0))...),
		laid(12, 6, 7, 'a', records(7, to('A', 5))...),
		laid(12, 6, 7, 'a'),
	} {
		does(t, "P8.2: Open", func(t *testing.T) (*disk.Disk, func() api.Errno) {
			d := loaded(t, l)
			return d, func() api.Errno {
				log, e := Open(d)
				if (e == api.OK) != (log != nil) {
					t.Errorf("P8.2: Open answers %d, and a log: %t", e, log != nil)
				}
				return e
			}
		}, opened(l).checkpoint())
	}
}

// TestP8_2BreaksOff: a log of two records in which each sector in turn is zero, or stays from another life.
func TestP8_2BreaksOff(t *testing.T) {
	first, second := to('A', 3, 1), to('B', 1, 4, 0)
	good := laid(12, 5, 6, 'a', records(6, first, second)...)
	opens(t, "two records", good, 2)
	for i := range 9 {
		want := 0
		if i >= 4 {
			want = 1
		}
		for what, s := range map[string]api.Sector{
			"zero":                    {},
			"of an older generation":  records(5, first, second)[i],
			"of a newer generation":   records(7, first, second)[i],
			"of a number more":        append(castRecord(6, 1, first), castRecord(6, 2, second)...)[i],
			"of a number less":        append(castRecord(6, math.MaxUint64, first), castRecord(6, 0, second)...)[i],
			"that of the next sector": good[2+i+1],
			"that of the one ahead":   good[2+i-1],
			"with another check":      put(good[2+i], 28, good[2+i][28]^0x80),
			"with a bit turned":       put(good[2+i], 200, good[2+i][200]^0x10),
			"with its mark wrong":     fitted(put(good[2+i], 3, 'p')),
			"with a byte 5":           fitted(put(good[2+i], 5, 1)),
			"with a byte 7":           fitted(put(good[2+i], 7, 128)),
			"of kind 1":               fitted(put(good[2+i], 4, 1)),
			"of kind 0":               fitted(put(good[2+i], 4, 0)),
			"of kind 5":               fitted(put(good[2+i], 4, 5)),
			"of index 9":              fitted(put(good[2+i], 24, 0, 0, 0, 9)),
			"of an index beyond 2^24": fitted(put(good[2+i], 24, 1)),
			"of an index beyond 2^31": fitted(put(good[2+i], 24, 128)),
		} {
			l := slices.Clone(good)
			l[2+i] = s
			opens(t, fmt.Sprintf("sector %d of the log %s", i, what), l, want)
		}
	}
	// What stands behind the last record does not matter.
	for _, s := range []api.Sector{castList(6, 2, 1), castImage(6, 2, 0, of('X')), castEnd(6, 2, 1), castList(6, 2), castRecord(6, 0, first)[0]} {
		l := slices.Clone(good)
		l[2+9] = s
		opens(t, "something behind the last record", l, 2)
	}
}

// TestP8_2Places: a record is looked for right behind the one ahead of it, and nowhere else.
func TestP8_2Places(t *testing.T) {
	gap := []api.Sector{{}}
	a, b := castRecord(4, 0, to('A', 1)), castRecord(4, 1, to('B', 2))
	for _, x := range []struct {
		what string
		in   []api.Sector
		want int
	}{
		{"a record behind a gap", slices.Concat(gap, a), 0},
		{"a gap between", slices.Concat(a, gap, b), 1},
		{"the second alone", b, 0},
		{"the second behind the place of the first", slices.Concat(gap, gap, gap, b), 0},
		{"the second ahead of the first", slices.Concat(b, a), 0},
		{"the first twice", slices.Concat(a, a), 1},
		{"number 2 behind number 0", slices.Concat(a, castRecord(4, 2, to('B', 2))), 1},
		{"another generation behind", slices.Concat(a, castRecord(3, 1, to('B', 2))), 1},
		{"a newer generation behind", slices.Concat(a, castRecord(5, 1, to('B', 2))), 1},
		{"another generation ahead", slices.Concat(castRecord(3, 0, to('A', 1)), b), 0},
		{"both, in their order", slices.Concat(a, b), 2},
		{"both, and a third of number 2", slices.Concat(a, b, castRecord(4, 2, to('C', 2, 1))), 3},
	} {
		opens(t, x.what, laid(12, 5, 4, 'a', x.in...), x.want)
	}
}

// TestP8_2ListWrong: records of which only the list is wrong, and all else fits it.
func TestP8_2ListWrong(t *testing.T) {
	with := func(list api.Sector, n int) []api.Sector {
		l := []api.Sector{list}
		for k := range n {
			l = append(l, castImage(4, 0, k, of(byte('A'+k))))
		}
		return append(l, castEnd(4, 0, n))
	}
	list := func(index uint32, l ...int) api.Sector { return cast(2, 4, 0, index, numbers(l...)) }
	for what, in := range map[string][]api.Sector{
		"of no page":               with(castList(4, 0, 1, 5), 2),
		"of a page far beyond":     with(castList(4, 0, 1, 1<<31), 2),
		"of page 2^32 - 1":         with(castList(4, 0, math.MaxUint32), 1),
		"of a page twice":          with(castList(4, 0, 1, 1), 2),
		"of a page twice, apart":   with(castList(4, 0, 1, 2, 1), 3),
		"of none":                  with(castList(4, 0), 0),
		"with one number more":     with(list(2, 1, 2, 3), 2),
		"with something at last":   with(fitted(put(castList(4, 0, 1), 511, 1)), 1),
		"with something behind":    with(list(1, 1, 0, 0, 7), 1),
		"one number short":         with(list(3, 1, 2), 2),
		"that says one image less": with(list(1, 1, 2), 2),
	} {
		opens(t, "a list "+what, laid(12, 5, 4, 'a', in...), 0)
	}
	// A number that is missing is a 0, and page 0 is one.
	opens(t, "a list that ends with page 0", laid(12, 5, 4, 'a', with(list(3, 1, 2), 3)...), 1)

	// 121 images: their numbers would have no room.
	for _, pages := range [][]int{upTo(120), upTo(121)[1:]} {
		long := laid(200, 130, 4, 'a', with(cast(2, 4, 0, 121, numbers(pages...)), 121)...)
		opens(t, "a list of 121", long, 0)
	}
	for _, n := range []uint32{0, 121, 122, 198, 199, 200, 1 << 16, 1 << 31, math.MaxUint32} {
		l := laid(200, 130, 4, 'a', castList(4, 0, upTo(120)...))
		l[2] = cast(2, 4, 0, n, numbers(upTo(120)...))
		opens(t, fmt.Sprintf("a list of index %d", n), l, 0)
	}
}

// TestP8_2EndWrong: records of which only the end is wrong.
func TestP8_2EndWrong(t *testing.T) {
	for what, end := range map[string]api.Sector{
		"with a page":        cast(4, 4, 0, 2, of('X')),
		"with a byte":        fitted(put(castEnd(4, 0, 2), 32, 1)),
		"with a last byte":   fitted(put(castEnd(4, 0, 2), 511, 1)),
		"of one image more":  castEnd(4, 0, 3),
		"of one image less":  castEnd(4, 0, 1),
		"of none":            castEnd(4, 0, 0),
		"of a number more":   castEnd(4, 1, 2),
		"of a generation up": castEnd(5, 0, 2),
		"that is an image":   cast(3, 4, 0, 2, api.Page{}),
		"that is missing":    {},
	} {
		opens(t, "an end "+what, laid(12, 5, 4, 'a', castList(4, 0, 1, 2), castImage(4, 0, 0, of('A')), castImage(4, 0, 1, of('B')), end), 0)
	}
	opens(t, "images that are exchanged", laid(12, 5, 4, 'a', castList(4, 0, 1, 2), castImage(4, 0, 1, of('A')), castImage(4, 0, 0, of('B')), castEnd(4, 0, 2)), 0)
}

// TestP8_2BeyondTheLog: frames of a record that stand in homes do not count.
func TestP8_2BeyondTheLog(t *testing.T) {
	// A list of n images with n + 2 sectors more than the log has: the others stand in the homes.
	for n := 4; n <= 6; n++ {
		l := laid(5, 6, 4, 'a')
		copy(l[2:], castRecord(4, 0, to('A', upTo(n)...)))
		opens(t, fmt.Sprintf("a record of %d images in a log of 5", n), l, 0)
	}
	for used := 1; used <= 2; used++ {
		l := laid(3*used+2, 6, 4, 'a')
		var all [][]api.Image
		for i := range used + 1 {
			all = append(all, to(byte('A'+i), i))
		}
		copy(l[2:], records(4, all...))
		opens(t, "a last record whose end stands in a home", l, used)
	}
	l := laid(6, 6, 4, 'a', records(4, to('A', 0), to('B', 1))...)
	copy(l[2+6:], castRecord(4, 2, to('C', 2)))
	opens(t, "a third record that stands in homes", l, 2)
}

// TestP8_2Power: the power goes at each operation of the Checkpoint that Open makes, any of the pending staying, and again in the Open behind it.
func TestP8_2Power(t *testing.T) {
	start := laid(12, 4, 6, 'a', records(6, to('A', 3, 0), to('B', 3, 1))...)
	contents := opened(start)
	ops := opened(start).checkpoint()
	for k := 1; k <= len(ops); k++ {
		for subset := range 1 << 4 {
			keep := func(i int) bool { return subset>>(i%4)&1 != 0 }
			d := loaded(t, start)
			d.Arm(k)
			l, e := Open(d)
			if e != api.ErrDead || l != nil {
				t.Fatalf("P8.2: Open, the power going at %d: %d", k, e)
			}
			d.On(slices.DeleteFunc(d.Pending(), func(i int) bool { return !keep(i) }))
			behind := after(start, ops[:k], keep)
			if !slices.Equal(d.Sectors(), behind) {
				t.Fatalf("P8.2: Open, the power going at %d, leaves others", k)
			}
			l = openOf(t, d)
			r := opened(behind)
			r.checkpoint()
			same(t, "P8.2: Open behind it", d, l, r)
			for p := range 4 {
				want, _ := contents.read(p)
				reads(t, l, p, want, api.OK)
			}
			tells(t, l, 4, 12, 7)
		}
	}
}

// TestP8_2AnyDisk: logs with records of which some sectors were changed, with and without a check that fits: what stands is as is reckoned.
func TestP8_2AnyDisk(t *testing.T) {
	r := rand.New(rand.NewSource(82))
	for range 6000 {
		log, pages, g := r.Intn(14)+3, r.Intn(5)+1, uint64(r.Intn(4)+1)
		l := laid(log, pages, g, 'a')
		l[(g+1)%2] = castHead(g-1, log, pages)
		at := 2
		for s := 0; at < 2+log; s++ {
			w := to(byte(r.Intn(250)+1), r.Perm(pages)[:r.Intn(pages)+1]...)
			if r.Intn(4) == 0 {
				break
			}
			at += copy(l[at:2+log], castRecord(g, uint64(s), w))
		}
		for range r.Intn(3) {
			spoil(r, l, g)
		}
		want := opened(l)
		if want == nil {
			opensNone(t, "drawn", l)
			continue
		}
		opens(t, "drawn", l, len(want.records))
	}
}

// spoil changes something in one of the sectors.
func spoil(r *rand.Rand, l []api.Sector, g uint64) {
	i := r.Intn(len(l))
	s := l[i]
	switch r.Intn(8) {
	case 0:
		s = l[r.Intn(len(l))]
	case 1:
		s[4] = byte(r.Intn(7))
	case 2:
		binary.BigEndian.PutUint64(s[8:], g+uint64(r.Intn(3))-1)
	case 3:
		binary.BigEndian.PutUint64(s[16:], uint64(r.Intn(3)))
	case 4:
		binary.BigEndian.PutUint32(s[24:], uint32(r.Intn(8)))
	case 5:
		binary.BigEndian.PutUint32(s[32+4*r.Intn(4):], uint32(r.Intn(7)))
	case 6:
		s[r.Intn(512)] ^= 1 << r.Intn(8)
	case 7:
		s = api.Sector{}
	}
	if r.Intn(5) != 0 {
		s = fitted(s)
	}
	l[i] = s
}

// TestR1LastGeneration: behind the last generation that a head can say all ends well, and what the log has is read, again and again.
func TestR1LastGeneration(t *testing.T) {
	d := loaded(t, laid(6, 4, math.MaxUint64, 'a', records(math.MaxUint64, to('A', 1))...))
	for range 3 {
		l := openOf(t, d)
		reads(t, l, 1, to('A', 1)[0].Data, api.OK)
		reads(t, l, 2, of('a'+2), api.OK)
		if l.Pages() != 4 || l.Room() != 6 {
			t.Errorf("R1: Pages, Room: %d, %d", l.Pages(), l.Room())
		}
	}
}

// TestR1AnySectors: on disks of all kinds of frames, wherever they stand, each call ends.
func TestR1AnySectors(t *testing.T) {
	r := rand.New(rand.NewSource(1))
	for range 1500 {
		log, pages := r.Intn(8)+1, r.Intn(4)+1
		l := make([]api.Sector, 2+log+pages)
		for i := range l {
			x := numbers(r.Intn(9), r.Intn(5), r.Intn(5))
			l[i] = cast(byte(r.Intn(7)), uint64(r.Intn(3)), uint64(r.Intn(2)), uint32(r.Intn(6)), x)
		}
		if r.Intn(4) != 0 {
			l[1] = castHead(1, log, pages)
		}
		want := opened(l)
		if want == nil {
			opensNone(t, "drawn", l)
			continue
		}
		opens(t, "drawn", l, len(want.records))
		d, at := openedOn(t, l)
		want.checkpoint()
		commits(t, d, at, want, to('A', r.Intn(pages)), to('B', r.Intn(pages)))
	}
}
