package wal

import (
	"fmt"
	"math"
	"testing"

	"ciborium/api"
)

// strange are numbers that no page of n has.
func strange(n int) []int {
	return []int{n, n + 1, -1, -n, 1 << 32, 1<<32 + 1, -1 << 32, math.MaxInt, math.MinInt, math.MaxInt - 7}
}

// TestExamples: the chapter's table, row by row, on a disk of 12 sectors.
func TestExamples(t *testing.T) {
	d := loaded(t, make([]api.Sector, 12))
	answers(t, "row 1: Format(5)", Format(d, 5), api.OK)
	l := openOf(t, d)
	tells(t, l, 5, 5, 1)

	answers(t, "row 2: Commit(page 3)", l.Commit(to('A', 3)), api.OK)
	reads(t, l, 3, to('A', 3)[0].Data, api.OK)
	reads(t, l, 4, api.Page{}, api.OK)
	tells(t, l, 5, 2, 1)

	answers(t, "row 3: Commit(page 4)", l.Commit(to('B', 4)), api.OK)
	tells(t, l, 5, 2, 2)

	answers(t, "row 4: Commit(0, 1, 2)", l.Commit(to('C', 0, 1, 2)), api.OK)
	answers(t, "row 4: Commit(of page 3 twice)", l.Commit(to('D', 3, 3)), api.ErrArg)
	answers(t, "row 4: Commit(of page 5)", l.Commit(to('D', 5)), api.ErrArg)
	answers(t, "row 4: Commit(of none)", l.Commit(nil), api.OK)

	answers(t, "row 5: Commit(0 to 3)", l.Commit(to('D', 0, 1, 2, 3)), api.ErrBig)

	answers(t, "row 6: Arm(2)", d.Arm(2), api.OK)
	answers(t, "row 6: Commit(page 0)", l.Commit(to('E', 0)), api.ErrDead)
	answers(t, "row 6: On()", d.On(nil), api.OK)
	l = openOf(t, d)
	reads(t, l, 0, to('C', 0, 1, 2)[0].Data, api.OK)

	answers(t, "row 7: Format(2)", Format(d, 2), api.ErrArg)
	answers(t, "row 7: Format(10)", Format(d, 10), api.ErrArg)
	_, e := Open(loaded(t, make([]api.Sector, 12)))
	answers(t, "row 7: Open(a disk of zeros)", e, api.ErrNoLog)
}

// TestP8_3Read: of pages at home, of such as are in the log, and of those that some records have.
func TestP8_3Read(t *testing.T) {
	d, l := openedOn(t, laid(20, 5, 3, 'a'))
	for p := range 5 {
		reads(t, l, p, of('a'+byte(p)), api.OK)
	}
	answers(t, "P8.4: Commit", l.Commit(to('A', 1, 3)), api.OK)
	answers(t, "P8.4: Commit", l.Commit(to('B', 3)), api.OK)
	answers(t, "P8.4: Commit", l.Commit([]api.Image{{Page: 4}}), api.OK)
	for range 2 {
		reads(t, l, 0, of('a'), api.OK)
		reads(t, l, 1, to('A', 1)[0].Data, api.OK)
		reads(t, l, 2, of('a'+2), api.OK)
		reads(t, l, 3, to('B', 3)[0].Data, api.OK)
		reads(t, l, 4, api.Page{}, api.OK)
	}
	// What is in the log is not read at home, and what is not is read there, each time.
	for p := range 5 {
		answers(t, "Write", d.Write(22+p, castHome(9, p, of('H'))), api.OK)
	}
	reads(t, l, 0, of('H'), api.OK)
	reads(t, l, 1, to('A', 1)[0].Data, api.OK)
	reads(t, l, 3, to('B', 3)[0].Data, api.OK)
	answers(t, "P8.5: Checkpoint", l.Checkpoint(), api.OK)
	reads(t, l, 1, to('A', 1)[0].Data, api.OK)
	answers(t, "Write", d.Write(23, castHome(9, 1, of('I'))), api.OK)
	reads(t, l, 1, of('I'), api.OK)
	reads(t, l, 2, of('H'), api.OK)
	reads(t, l, 4, api.Page{}, api.OK)
}

// TestP8_3ReadWrong: there is no such page.
func TestP8_3ReadWrong(t *testing.T) {
	for _, n := range []int{1, 5, 300} {
		_, l := openedOn(t, laid(4, n, 3, 'a'))
		for range 2 {
			for _, p := range strange(n) {
				if p < 0 || p >= n {
					reads(t, l, p, api.Page{}, api.ErrArg)
				}
			}
			reads(t, l, n-1, of('a'+byte(n-1)), api.OK)
			reads(t, l, 0, of('a'), api.OK)
			answers(t, "P8.4: Commit", l.Commit([]api.Image{{Page: n - 1, Data: of('a' + byte(n-1))}}), api.OK)
		}
	}
}

// TestP8_3Rot: a home that is no home frame of that page; the others are read all the same.
func TestP8_3Rot(t *testing.T) {
	good := castHome(3, 2, of('X'))
	for what, s := range map[string]api.Sector{
		"zeros":               {},
		"another page's":      castHome(3, 1, of('X')),
		"a far page's":        castHome(3, 1<<31+2, of('X')),
		"with a number":       cast(5, 3, 1, 2, of('X')),
		"with a great number": cast(5, 3, 1<<63, 2, of('X')),
		"an image":            castImage(3, 0, 2, of('X')),
		"a head":              castHead(3, 6, 4),
		"a list":              castList(3, 0, 1, 2),
		"an end":              castEnd(3, 0, 2),
		"of kind 0":           cast(0, 3, 0, 2, of('X')),
		"of kind 6":           cast(6, 3, 0, 2, of('X')),
		"with another check":  put(good, 30, good[30]^1),
		"with another bit":    put(good, 100, good[100]^4),
		"with another kind":   put(good, 4, 7),
		"with a byte 6":       fitted(put(good, 6, 1)),
		"with another mark":   fitted(put(good, 0, 'C')),
	} {
		l := laid(6, 4, 3, 'a')
		l[8+2] = s
		d, log := openedOn(t, l)
		for range 2 {
			if x, e := log.Read(2); x != (api.Page{}) || e != api.ErrRot {
				t.Errorf("P8.3: a home %s: %x.., %d", what, x[:4], e)
			}
			reads(t, log, 1, of('a'+1), api.OK)
			reads(t, log, 3, of('a'+3), api.OK)
			reads(t, log, 4, api.Page{}, api.ErrArg)
		}
		tells(t, log, 4, 6, 3)
		// A page that is in the log is read there; brought home, it is no rot any more.
		answers(t, "P8.4: Commit", log.Commit(to('N', 2)), api.OK)
		reads(t, log, 2, to('N', 2)[0].Data, api.OK)
		answers(t, "P8.5: Checkpoint", log.Checkpoint(), api.OK)
		reads(t, log, 2, to('N', 2)[0].Data, api.OK)
		if s, _ := d.Read(10); s != castHome(3, 2, to('N', 2)[0].Data) {
			t.Errorf("P8.5: a home %s stays", what)
		}
	}
}

// TestP8_3AnyGeneration: a home may be of any generation.
func TestP8_3AnyGeneration(t *testing.T) {
	for _, g := range []uint64{0, 1, 2, 3, 4, 1 << 40, math.MaxUint64} {
		l := laid(6, 4, 3, 'a')
		l[8+2] = castHome(g, 2, of('X'))
		_, log := openedOn(t, l)
		reads(t, log, 2, of('X'), api.OK)
	}
}

// bursts are changes of bits that lie within 32 that follow one another from bit i of a sector on, the lowest bit of a byte first.
func bursts(i int) [][]int {
	all := [][]int{{0}, {0, 1}, {0, 31}, {0, 7, 8, 30}, upTo(32), upTo(17), {0, 2, 4, 8, 16}, {31 - i%32}, {0, 3, 5, i*7%31 + 1}}
	var l [][]int
	for _, offsets := range all {
		var places []int
		for _, o := range offsets {
			if i+o < 4096 {
				places = append(places, i+o)
			}
		}
		l = append(l, places)
	}
	return l
}

// burst is s with these of its bits turned, outside of the check or within it; false, if none was.
func burst(s api.Sector, places []int, within bool) (api.Sector, bool) {
	turned := map[int]int{}
	for _, i := range places {
		if check := i/8 >= 28 && i/8 < 32; check == within {
			turned[i]++
		}
	}
	was := s
	for i, n := range turned {
		if n%2 == 1 {
			s[i/8] ^= 1 << (i % 8)
		}
	}
	return s, s != was
}

// TestP8_7BurstHome: a home in which bits within 32 were changed is no frame, wherever they are.
func TestP8_7BurstHome(t *testing.T) {
	for _, x := range []api.Page{{}, of('X')} {
		good := castHome(3, 2, x)
		d, l := openedOn(t, laid(6, 4, 3, 'a'))
		tried := 0
		for i := range 4096 {
			for _, places := range bursts(i) {
				for _, within := range []bool{false, true} {
					s, ok := burst(good, places, within)
					if !ok {
						continue
					}
					tried++
					d.Write(10, s)
					if got, e := l.Read(2); e != api.ErrRot || got != (api.Page{}) {
						t.Fatalf("P8.7: a home of which the bits %v are turned (in the check: %t): %d", places, within, e)
					}
				}
			}
		}
		if tried < 36000 {
			t.Errorf("only %d changes", tried)
		}
		d.Write(10, good)
		reads(t, l, 2, x, api.OK)
	}
}

// TestP8_7BurstLog: likewise each frame of a record, and a head.
func TestP8_7BurstLog(t *testing.T) {
	start := laid(6, 4, 4, 'a', castRecord(4, 0, to('R', 3, 1))...)
	for _, at := range []int{0, 2, 3, 4, 5} {
		d := loaded(t, start)
		for i := range 4096 {
			for j, places := range bursts(i) {
				for _, within := range []bool{false, true} {
					s, ok := burst(start[at], places, within)
					if !ok || (i+j)%3 != 0 {
						continue
					}
					d.Write(at, s)
					l, e := Open(d)
					if at == 0 {
						answers(t, fmt.Sprintf("P8.7: Open, the bits %v of the head turned", places), e, api.ErrNoLog)
						continue
					}
					if e != api.OK || l.Generation() != 4 {
						t.Fatalf("P8.7: sector %d, of which the bits %v are turned, is a frame (in the check: %t)", at, places, within)
					}
				}
			}
		}
		d.Write(at, start[at])
		tells(t, openOf(t, d), 4, 6, 5)
	}
}
