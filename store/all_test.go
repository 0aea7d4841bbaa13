package store

import (
	"fmt"
	"maps"
	"slices"
	"strings"
	"testing"

	"ciborium/api"
	"ciborium/disk"
)

// filled is a store with keys, some of which are not committed.
func filled(t *testing.T) *both {
	t.Helper()
	b := bothOf(t, 400, 60)
	for i, k := range []string{"a", "aa", "ab", "ab\x00", "ab\xff", "ac", "b", "\x00", "\xff", "\xff\xff", strings.Repeat("a", 200)} {
		b.put(k, text(i, i*390))
		if i%4 == 3 {
			b.commit()
		}
	}
	return b
}

// TestP11_3All: of all prefixes, what is committed and what is not, till it is all deleted.
func TestP11_3All(t *testing.T) {
	b := filled(t)
	for {
		for _, prefix := range []string{"", "a", "aa", "ab", "ab\x00", "abc", "b", "c", "\x00", "\xff", "\xff\xff", "\xff\xff\xff", strings.Repeat("a", 200), strings.Repeat("a", 201)} {
			b.all(prefix)
		}
		l := keys(b.m.now, "", "")
		if len(l) == 0 {
			return
		}
		b.remove(l[len(l)/2])
	}
}

// TestP11_3Snapshot: an iterator tells what was at hand when All was called, whatever is done ahead of it, between, and while it goes.
func TestP11_3Snapshot(t *testing.T) {
	for what, do := range map[string]func(b *both){
		"Put":      func(b *both) { b.put("new", "1"); b.put("a", text(9, 2000)) },
		"Delete":   func(b *both) { b.remove("b"); b.remove("aa"); b.remove("\xff") },
		"Commit":   func(b *both) { b.commit() },
		"Rollback": func(b *both) { b.rollback() },
		"another":  func(b *both) { b.all("a") },
		"none any more": func(b *both) {
			for _, k := range keys(b.m.now, "", "") {
				b.remove(k)
			}
			b.commit()
		},
		"Make": func(b *both) { answers(t, "Make", Make(b.d, 60), api.OK) },
		"no power": func(b *both) {
			b.d.Off()
			answers(t, "Commit", b.s.Commit(), api.ErrDead)
		},
	} {
		b := filled(t)
		all, was := b.s.All("a"), maps.Clone(b.m.now)
		do(b)
		holds(t, "P11.3: ahead of it: "+what, told(all), was, "a")
		holds(t, "P11.3: again: "+what, told(all), was, "a")

		b = filled(t)
		all, was = b.s.All(""), maps.Clone(b.m.now)
		var got []pair
		for k, v := range all {
			if got = append(got, pair{k, v}); len(got) == 2 {
				do(b)
			}
		}
		holds(t, "P11.3: while it goes: "+what, got, was, "")
		holds(t, "P11.3: again behind it: "+what, told(all), was, "")
	}
}

// TestP11_3Early: an iterator may be left at each pair, and tells all of them again.
func TestP11_3Early(t *testing.T) {
	b := filled(t)
	all := b.s.All("")
	for most := range len(b.m.now) {
		var got []string
		for k := range all {
			if got = append(got, k); len(got) > most {
				break
			}
		}
		if want := keys(b.m.now, "", "")[:most+1]; !slices.Equal(got, want) {
			t.Errorf("P11.3: left at %d: %q, not %q", most, got, want)
		}
		holds(t, "P11.3: gone over again", told(all), b.m.now, "")
	}
}

// TestP11_3Two: one iterator within another, and within itself.
func TestP11_3Two(t *testing.T) {
	b := filled(t)
	all := b.s.All("")
	n := 0
	for range all {
		n += len(told(all))
		n += len(told(b.s.All("a")))
	}
	if k := len(b.m.now); n != k*(k+len(keys(b.m.now, "a", ""))) {
		t.Errorf("P11.3: one within another: %d", n)
	}
}

// TestP11_3Unreadable: where a page of the tree can't be read nothing is told, not even what could be.
func TestP11_3Unreadable(t *testing.T) {
	b := bothOf(t, 300, 60)
	for i := range 12 {
		b.put(fmt.Sprint(strings.Repeat("k", 150), i), text(i, 30))
		b.commit()
	}
	pages, e := b.s.now.Pages()
	answers(t, "Pages", e, api.OK)
	clean := turned(t, b.d, func(*disk.Disk) {}).Sectors()
	nothing := 0
	for _, n := range pages {
		d := loaded(t, clean)
		spoil(t, d, 2+60+n)
		s := opened(t, d)
		if l := told(s.All("")); l != nil {
			t.Errorf("P11.3: page %d is rotten, but %d pairs are told", n, len(l))
		}
		if l := told(s.All(strings.Repeat("k", 150) + "3")); l == nil {
			nothing++
		} else if !slices.Equal(l, []pair{{strings.Repeat("k", 150) + "3", text(3, 30)}}) {
			t.Errorf("P11.3: page %d is rotten: %v", n, l)
		}
		_, e := s.List("", "", 0)
		if e != api.OK && e != api.ErrRot {
			t.Errorf("P11.3: it lives: %d", e)
		}
	}
	if nothing == 0 || nothing == len(pages) {
		t.Errorf("P11.3: nothing is told for %d of %d pages", nothing, len(pages))
	}
}
