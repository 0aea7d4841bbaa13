package tree

import (
	"math"
	"slices"
	"strings"
	"testing"

	"ciborium/api"
	"ciborium/page"
)

// TestExamples: the chapter's rows, one behind the other.
func TestExamples(t *testing.T) {
	_, _, p := pagerOf(t, 20, 60)
	x := treeOn(t, p, 0)
	lists := func(prefix, after string, most int, e api.Errno, want ...string) {
		t.Helper()
		if got, err := x.List(prefix, after, most); !slices.Equal(got, want) || err != e {
			t.Errorf("List(%q, %q, %d): %q, %d; not %q, %d", prefix, after, most, got, err, want, e)
		}
	}
	deletes := func(key string, want bool) {
		t.Helper()
		if got, e := x.Delete(key); got != want || e != api.OK {
			t.Errorf("Delete(%q): %v, %d", key, got, e)
		}
	}
	answers(t, "Put(b: 1)", x.Put("b", "1"), api.OK)
	answers(t, "Put(a: 2)", x.Put("a", "2"), api.OK)
	answers(t, "Put(b: 3)", x.Put("b", "3"), api.OK)
	lists("", "", 9, api.OK, "a", "b")
	if v, there, e := x.Get("b"); v != "3" || !there || e != api.OK {
		t.Errorf("Get(b): %q, %v, %d", v, there, e)
	}
	answers(t, "Put(ab: 4)", x.Put("ab", "4"), api.OK)
	lists("a", "", 9, api.OK, "a", "ab")
	lists("a", "a", 9, api.OK, "ab")
	lists("", "", 1, api.OK, "a")
	lists("", "", -1, api.ErrArg)
	deletes("a", true)
	deletes("a", false)
	if n, e := x.Count(); n != 2 || e != api.OK {
		t.Errorf("Count: %d, %d", n, e)
	}
	if v, there, e := x.Get(""); v != "" || there || e != api.ErrArg {
		t.Errorf("Get(empty): %q, %v, %d", v, there, e)
	}
	answers(t, "Put(c: 4001 bytes)", x.Put("c", strings.Repeat("v", 4001)), api.ErrLong)
	answers(t, "Put(201 bytes: x)", x.Put(strings.Repeat("k", 201), "x"), api.ErrArg)
	deletes("b", true)
	deletes("ab", true)
	if l, e := x.Pages(); len(l) > 0 || e != api.OK {
		t.Errorf("Pages: %v, %d", l, e)
	}
	if n, e := p.Root(0); n != 0 || e != api.OK {
		t.Errorf("the pager's Root(0): %d, %d", n, e)
	}
}

// TestErrors: the errors' numbers, and the limits, are the document's.
func TestErrors(t *testing.T) {
	for i, e := range []api.Errno{api.ErrNil, api.ErrArg, api.ErrLong, api.ErrFull, api.ErrDead, api.ErrRot, api.ErrTree} {
		if want := []api.Errno{1, 2, 3, 5, 6, 81, 100}[i]; e != want {
			t.Errorf("error %d, not %d", e, want)
		}
	}
	for i, n := range []int{api.MaxKey, api.MaxValue, api.ValueBytes, api.Spare, api.Touched} {
		if want := []int{200, 4000, 476, 24, 32}[i]; n != want {
			t.Errorf("limit %d, not %d", n, want)
		}
	}
}

// TestP10_1New: a root of each number, and no others; a root that is 0 has the empty tree.
func TestP10_1New(t *testing.T) {
	_, _, p := pagerOf(t, 20, 40)
	for i := range api.Roots {
		x := treeOn(t, p, i)
		both{t, p, x, reckoning{}}.same("P10.1: an empty tree")
		if v, there, e := x.Get("a"); v != "" || there || e != api.OK {
			t.Errorf("P10.1: Get of an empty tree: %q, %v, %d", v, there, e)
		}
		if there, e := x.Delete("a"); there || e != api.OK {
			t.Errorf("P10.1: Delete of an empty tree: %v, %d", there, e)
		}
	}
	for _, i := range []int{-1, 8, 9, math.MinInt, math.MaxInt, 1 << 32} {
		if x, e := New(p, i); x != nil || e != api.ErrArg {
			t.Errorf("P10.1: New(root %d): %d", i, e)
		}
	}
}

// TestP10_1NewReadsNothing: what hangs on the root, and whether it can be read, is not looked at yet.
func TestP10_1NewReadsNothing(t *testing.T) {
	d, _, p := pagerOf(t, 20, 40)
	n, _ := p.Take()
	answers(t, "SetRoot", p.SetRoot(2, n), api.OK)
	treeOn(t, p, 2)
	b := both{t, p, treeOn(t, p, 1), reckoning{}}
	b.put("a", "1")
	answers(t, "Commit", p.Commit(), api.OK)
	d.Off()
	treeOn(t, p, 1)
}

// TestR4Nil: objects that are not there.
func TestR4Nil(t *testing.T) {
	for _, root := range []int{0, 7, 8, -1} {
		if x, e := New(nil, root); x != nil || e != api.ErrNil {
			t.Errorf("P10.1: New(nil, %d): %d", root, e)
		}
	}
	var p *page.Pager
	if x, e := New(p, 0); x != nil || e != api.ErrNil {
		t.Errorf("P10.1: New of a nil pager: %d", e)
	}
	var x *Tree
	for _, key := range []string{"a", "", strings.Repeat("k", 201)} {
		if v, there, e := x.Get(key); v != "" || there || e != api.ErrNil {
			t.Errorf("P10.2: Get of nil: %q, %v, %d", v, there, e)
		}
		for _, bytes := range []int{0, 4001} {
			answers(t, "P10.3: Put of nil", x.Put(key, text(1, bytes)), api.ErrNil)
		}
		if there, e := x.Delete(key); there || e != api.ErrNil {
			t.Errorf("P10.4: Delete of nil: %v, %d", there, e)
		}
	}
	for _, most := range []int{-1, 0, 5} {
		if l, e := x.List("", "", most); len(l) > 0 || e != api.ErrNil {
			t.Errorf("P10.5: List of nil: %q, %d", l, e)
		}
	}
	if n, e := x.Count(); n != 0 || e != api.ErrNil {
		t.Errorf("P10.6: Count of nil: %d, %d", n, e)
	}
	if l, e := x.Pages(); len(l) > 0 || e != api.ErrNil {
		t.Errorf("P10.6: Pages of nil: %v, %d", l, e)
	}
}

// TestP10_2Keys: what is a key is found, what is none is told so, of each call that takes one.
func TestP10_2Keys(t *testing.T) {
	b := bothOf(t, 300)
	good := []string{"\x00", "\xff", "a", "\x00\x00", "a\x00", "a\x00b", "é", "\xff\xff", strings.Repeat("\x00", 200), strings.Repeat("\xff", 200), strings.Repeat("a", 199), strings.Repeat("a", 200)}
	for i, k := range good {
		b.get(k)
		b.remove(k)
		answers(t, "P10.3: Put", b.put(k, text(i, i*40)), api.OK)
		b.get(k)
		b.alone("P10.2")
	}
	for _, k := range []string{"", strings.Repeat("a", 201), strings.Repeat("\x00", 201), strings.Repeat("b", 70000)} {
		if v, there, e := b.x.Get(k); v != "" || there || e != api.ErrArg {
			t.Errorf("P10.2: Get of %d bytes: %q, %v, %d", len(k), v, there, e)
		}
		if there, e := b.x.Delete(k); there || e != api.ErrArg {
			t.Errorf("P10.4: Delete of %d bytes: %v, %d", len(k), there, e)
		}
		answers(t, "P10.3: Put of no key", b.put(k, ""), api.ErrArg)
		answers(t, "P10.3: Put of no key, too long a value", b.put(k, text(1, 4001)), api.ErrArg)
	}
	for _, k := range good {
		b.remove(k)
		b.get(k)
		b.remove(k)
		b.alone("P10.4")
	}
}

// TestP10_2LikeKeys: a key is another than those that it is a part of, or has as a part.
func TestP10_2LikeKeys(t *testing.T) {
	b := bothOf(t, 300)
	for n := 1; n <= 200; n += 3 {
		answers(t, "P10.3: Put", b.put(strings.Repeat("k", n), text(n, n%5)), api.OK)
	}
	for n := 1; n <= 200; n++ {
		b.get(strings.Repeat("k", n))
	}
	b.alone("P10.2: keys that begin with one another")
	for n := 200; n >= 1; n-- {
		b.remove(strings.Repeat("k", n))
	}
	b.alone("P10.4: keys that begin with one another")
}

// TestP10_3Values: values of all lengths that are edges, put anew and over one another.
func TestP10_3Values(t *testing.T) {
	b := bothOf(t, 100)
	lengths := []int{0, 1, 475, 476, 477, 951, 952, 953, 3807, 3808, 3809, 3999, 4000}
	for i, n := range lengths {
		for j, m := range lengths {
			answers(t, "P10.3: Put", b.put("k", text(i, n)), api.OK)
			b.alone("P10.3: a value")
			answers(t, "P10.3: Put over", b.put("k", text(j+50, m)), api.OK)
			b.alone("P10.3: a value put over")
		}
		b.remove("k")
		b.alone("P10.4: a value of each length")
	}
	b.put("k", text(1, 4000))
	for _, n := range []int{4001, 4002, 8000, 70000} {
		answers(t, "P10.3: too long a value", b.put("k", text(2, n)), api.ErrLong)
		answers(t, "P10.3: too long a value, a new key", b.put("l", text(2, n)), api.ErrLong)
	}
	b.put("zeros", strings.Repeat("\x00", 4000))
	b.alone("P10.3: zeros")
}

// TestR3Answers: what List and Pages answer is the caller's own.
func TestR3Answers(t *testing.T) {
	b := bothOf(t, 100)
	for _, k := range []string{"a", "b", "c"} {
		b.put(k, text(3, 600))
	}
	keys, _ := b.x.List("", "", 9)
	pages, _ := b.x.Pages()
	keys, pages = append(keys[:1], "x"), append(pages[:1], 0)
	keys[0], pages[0] = "y", 0
	b.alone("R3: what was answered is changed")
}
