package store

import (
	"fmt"
	"math/rand"
	"strings"
	"testing"

	"ciborium/api"
	"ciborium/disk"
)

// TestP11_4Lasts: what a Commit has answered OK for is there behind any loss of what is at hand.
func TestP11_4Lasts(t *testing.T) {
	for what, lose := range map[string]func(b *both){
		"Rollback": (*both).rollback,
		"Open":     (*both).anew,
		"the power": func(b *both) {
			b.d.Off()
			answers(t, "On", b.d.On(nil), api.OK)
			b.anew()
		},
	} {
		b := bothOf(t, 300, 60)
		b.put("a", "1")
		b.put("b", text(1, 4000))
		b.commit()
		lose(b)
		b.same("P11.4: " + what)
		b.remove("a")
		b.put("b", "2")
		b.put("c", text(1, 500))
		lose(b)
		b.same("P11.4: not committed: " + what)
		b.remove("b")
		b.commit()
		lose(b)
		b.same("P11.4: committed: " + what)
	}
}

// TestP11_4Nothing: a Commit of nothing, and of what was undone by hand, does nothing to the disk.
func TestP11_4Nothing(t *testing.T) {
	b := bothOf(t, 300, 60)
	b.put("a", "1")
	b.commit()
	before, flushes := b.d.Counts()
	b.commit()
	b.put("a", "1")
	b.commit()
	b.put("b", text(1, 3000))
	b.remove("b")
	b.get("a")
	b.rollback()
	b.commit()
	if w, f := b.d.Counts(); w != before || f != flushes {
		t.Errorf("P11.4: %d writes, %d flushes for nothing", w-before, f-flushes)
	}
	b.d.Off()
	b.commit()
	b.get("a")
	b.same("P11.4: the disk was asked nothing")
}

// great puts pages of values till a Commit must be told that it is too big.
func great(b *both, pages int) {
	for i := 0; pages > 0; i++ {
		n := min(pages, 8)
		b.put(fmt.Sprint("great", i), text(i, n*476))
		pages -= n
	}
}

// TestP11_4Big: a transaction that changes more pages than the log takes at once is rolled back; one that changes as many as it takes is not.
func TestP11_4Big(t *testing.T) {
	for _, log := range []int{20, 60, 121, 122, 123, 200} {
		most, big, fits := min(120, log-2), 0, 0
		for pages := max(1, most-30); pages <= most+2; pages++ {
			b := bothOf(t, 700, log)
			b.put("a", "1")
			b.put("b", "2")
			b.commit()
			b.remove("b")
			great(b, pages)
			n, e := b.s.now.pager.Changed()
			answers(t, "Changed", e, api.OK)
			if n <= most {
				fits++
				b.commit()
				b.same("P11.4: not too big")
				continue
			}
			big++
			writes, flushes := b.d.Counts()
			answers(t, fmt.Sprintf("P11.4: Commit of %d pages, a log of %d", n, log), b.s.Commit(), api.ErrBig)
			if w, f := b.d.Counts(); w != writes || f != flushes {
				t.Error("P11.4: too big, but something was written")
			}
			b.m.rollback()
			b.same("P11.4: too big: rolled back")
			b.commit()
			b.put("c", "3")
			b.commit()
			b.anew()
			b.same("P11.4: it goes on")
		}
		if big < 3 || fits < 3 {
			t.Errorf("P11.4: a log of %d: %d were too big, %d not", log, big, fits)
		}
	}
}

// TestP11_4Rot: a page that is to be written over but can't be read: nothing is committed, and all stays at hand.
func TestP11_4Rot(t *testing.T) {
	b := bothOf(t, 300, 60)
	b.put("a", "1")
	b.commit()
	b.d = turned(t, b.d, func(*disk.Disk) {})
	// The pages behind those that are taken: they are taken next.
	first := 62 + 300 - 62 - b.s.Free()
	for n := first; n < first+6; n++ {
		spoil(t, b.d, n)
	}
	b.anew()
	b.same("P11.4: free pages are rotten")
	b.put("b", text(1, 900))
	b.put("a", "2")
	for range 2 {
		answers(t, "P11.4: Commit", b.s.Commit(), api.ErrRot)
		b.same("P11.4: it stays at hand")
	}
	other := &both{t, b.d, opened(t, b.d), &machine{now: map[string]string{"a": "1"}}, b.data}
	other.same("P11.4: nothing was committed")
	b.rollback()
	b.same("P11.4: rolled back")
}

// TestP11_5Rollback: at hand is what is committed, and again behind each Rollback.
func TestP11_5Rollback(t *testing.T) {
	b := bothOf(t, 300, 60)
	b.rollback()
	b.same("P11.5: of nothing")
	b.put("a", "1")
	b.rollback()
	b.same("P11.5: of the first")
	b.put("a", text(1, 1000))
	b.put("b", "")
	b.commit()
	writes, flushes := b.d.Counts()
	for range 3 {
		b.put("a", text(2, 3000))
		b.remove("b")
		b.put("c", "3")
		b.same("P11.5: at hand")
		b.rollback()
		b.same("P11.5: rolled back")
		b.rollback()
		b.same("P11.5: twice")
	}
	if w, f := b.d.Counts(); w != writes || f != flushes {
		t.Error("P11.5: a Rollback writes")
	}
}

// touched holds how many pages a transaction has changed against P11.6, and commits it.
func (b *both) touched(what string, calls, valuePages int) {
	b.t.Helper()
	n, e := b.s.now.pager.Changed()
	answers(b.t, "Changed", e, api.OK)
	if n > api.Touched*calls+valuePages+8 {
		b.t.Errorf("P11.6: %s: %d pages, of %d calls and %d of values", what, n, calls, valuePages)
	}
	b.commit()
}

// TestP11_6Touched: no Put and no Delete changes more than 32 pages besides those of its value, also where the tree is as high as may be.
func TestP11_6Touched(t *testing.T) {
	r := rand.New(rand.NewSource(116))
	name := func(i int) string { return strings.Repeat("k", 195) + fmt.Sprintf("%05d", i) }
	b := bothOf(t, 3600, 122)
	n := 0
	for b.s.Free() > 40 {
		b.put(name(n*6113%99991), "")
		n++
		b.touched("Put", 1, 0)
	}
	l := keys(b.m.now, "", "")
	r.Shuffle(len(l), func(i, j int) { l[i], l[j] = l[j], l[i] })
	for i, k := range l {
		if i%3 == 0 && b.put(name(r.Intn(99991)), text(i, 400)) == api.OK {
			b.touched("Put", 1, 1)
		}
		b.remove(k)
		b.touched("Delete", 1, 0)
	}
	b.same("P11.6: behind all of them")
}

// TestP11_6Fits: transactions of as many calls and pages of values as a log just must take are never too big, in the shortest such logs.
func TestP11_6Fits(t *testing.T) {
	r := rand.New(rand.NewSource(117))
	for _, x := range []struct{ calls, pages, log int }{{1, 0, 42}, {1, 9, 51}, {1, 80, 122}, {2, 3, 77}, {3, 16, 122}, {3, 0, 106}, {3, 16, 4000}} {
		b := bothOf(t, 1100+x.log, x.log)
		for step := range 250 {
			left := x.pages
			for range x.calls {
				k := anyKey(r)
				l := keys(b.m.now, "", "")
				if len(l) > 0 && r.Intn(5) < 2 {
					k = l[r.Intn(len(l))]
				}
				v := text(step, min(4000, r.Intn(left+1)*476))
				if r.Intn(3) == 0 {
					b.remove(k)
				} else if b.put(k, v) == api.OK {
					left -= takes(v)
				}
			}
			b.touched(fmt.Sprint(x), x.calls, x.pages)
		}
		b.same("P11.6: never too big")
	}
}

// TestP11_6Room: a Put finds room as long as the chapter's sum says so, with keys of any length (that is looked at in each put).
func TestP11_6Room(t *testing.T) {
	for _, bytes := range []int{4, 30, 120, 200} {
		for _, value := range []int{0, 1, 476, 4000} {
			b := bothOf(t, 500, 60)
			n := 0
			for ; n < 2000 && b.put(text(n*89, bytes-4)+fmt.Sprintf("%04d", n*389%2000), text(n, value)) == api.OK; n++ {
				b.commit()
			}
			if least := (b.data - 48) / (4 + takes(text(1, value))); n < least {
				t.Errorf("P11.6: %d bytes, %d of values: full behind %d, not %d", bytes, value, n, least)
			}
			b.same("P11.6: full")
		}
	}
}
