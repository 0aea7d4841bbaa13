package tree

import (
	"fmt"
	"math/rand"
	"slices"
	"strings"
	"testing"

	"ciborium/api"
)

// TestP10_8AnyRows: long rows of all calls; each answers what is reckoned.
func TestP10_8AnyRows(t *testing.T) {
	r := rand.New(rand.NewSource(108))
	for round := range 60 {
		b := bothOf(t, 60+r.Intn(600))
		committed := b.r.copy()
		for k := range 300 {
			switch r.Intn(14) {
			case 0, 1, 2, 3, 4, 5:
				b.put(anyKey(r), anyValue(r))
			case 6, 7:
				b.remove(anyKey(r))
			case 8, 9:
				if keys := b.r.keys(); len(keys) > 0 {
					b.remove(keys[r.Intn(len(keys))])
				}
			case 10:
				if keys := b.r.keys(); len(keys) > 0 {
					b.put(keys[r.Intn(len(keys))], anyValue(r))
				}
			case 11:
				b.get(anyKey(r))
				b.list(anyKey(r)[:1], anyKey(r), r.Intn(9))
			case 12:
				if r.Intn(3) == 0 {
					answers(t, "Rollback", b.p.Rollback(), api.OK)
					b.r = committed.copy()
				}
			default:
				if b.p.Commit() == api.OK {
					committed = b.r.copy()
				}
			}
			if k%20 == 0 || t.Failed() {
				b.alone(fmt.Sprintf("P10.8: round %d, step %d", round, k))
			}
		}
		answers(t, "Rollback", b.p.Rollback(), api.OK)
		b.r = committed
		b.alone("P10.8: rolled back")
	}
}

// TestP10_8Orders: keys of one length, put and taken out in all kinds of orders.
func TestP10_8Orders(t *testing.T) {
	const n = 90
	r := rand.New(rand.NewSource(109))
	orders := map[string][]int{"rising": nil, "falling": nil, "leaping": nil, "inward": nil, "any": r.Perm(n)}
	for i := range n {
		orders["rising"] = append(orders["rising"], i)
		orders["falling"] = append(orders["falling"], n-1-i)
		orders["leaping"] = append(orders["leaping"], i*37%n)
		orders["inward"] = append(orders["inward"], []int{i / 2, n - 1 - i/2}[i%2])
	}
	for _, bytes := range []int{3, 60, 118, 119, 200} {
		name := func(i int) string { return strings.Repeat("k", bytes-3) + fmt.Sprintf("%03d", i) }
		for in, order := range orders {
			for out, back := range orders {
				b := bothOf(t, 400)
				for _, i := range order {
					answers(t, "P10.3: Put", b.put(name(i), fmt.Sprint(i)), api.OK)
				}
				what := fmt.Sprintf("P10.8: %d bytes, %s in and %s out", bytes, in, out)
				b.alone(what)
				for k, i := range back {
					b.remove(name(i))
					if k%19 == 0 {
						b.alone(what)
					}
				}
				b.alone(what + ", all of them")
			}
		}
	}
}

// TestP10_8Lengths: short keys among long ones, some of which just fill a page with others, put and taken out many times.
func TestP10_8Lengths(t *testing.T) {
	r := rand.New(rand.NewSource(113))
	for round := range 40 {
		b := bothOf(t, 500)
		short, long := r.Intn(20)+3, 120+r.Intn(81)
		name := func() string {
			k := fmt.Sprintf("%03d", r.Intn(150))
			return k + strings.Repeat("x", []int{0, r.Intn(short), long - 3}[r.Intn(3)])
		}
		for k := range 1500 {
			if keys := b.r.keys(); r.Intn(90) >= len(keys) {
				b.put(name(), "")
			} else {
				b.remove(keys[r.Intn(len(keys))])
			}
			if k%50 == 0 {
				b.alone(fmt.Sprintf("P10.8: lengths, round %d, step %d", round, k))
			}
		}
		b.alone("P10.8: lengths")
		fits(t, b)
	}
}

// fits: each node of a tree has room in its page, and is a part of an even whole.
func fits(t *testing.T, b both) {
	t.Helper()
	e := b.x.walk(all, func(_ *work, x *node) api.Errno {
		y := &node{place: x.place}
		if !y.read(x.lay()) || !slices.Equal(x.entries, y.entries) || x.weight() > x.room() {
			t.Errorf("P10.8: the node %v is not what its page says", x.place)
		}
		return api.OK
	})
	answers(t, "P10.8: all nodes", e, api.OK)
}

// TestP10_7Filled: a leaf is filled to its last byte, ahead of that it is cut in two.
func TestP10_7Filled(t *testing.T) {
	for last, want := range map[int]int{53: 1, 54: 1, 55: 3} {
		b := bothOf(t, 60)
		for i, n := range []int{200, 200, last} {
			b.put(text(i+1, n), "")
		}
		b.alone("P10.7: a leaf that is full, or nearly")
		if n := len(b.pages()); n != want {
			t.Errorf("P10.7: keys of 200, 200 and %d bytes: %d pages, not %d", last, n, want)
		}
	}
}

// TestP10_8Trees: trees on the eight roots of a pager do not see one another, and have no page in common.
func TestP10_8Trees(t *testing.T) {
	r := rand.New(rand.NewSource(110))
	_, _, p := pagerOf(t, 20, 3000)
	var all []both
	for i := range api.Roots {
		all = append(all, both{t, p, treeOn(t, p, i), reckoning{}})
	}
	for k := range 3000 {
		b := all[r.Intn(len(all))]
		if r.Intn(3) > 0 {
			b.put(anyKey(r), anyValue(r))
		} else {
			b.remove(anyKey(r))
		}
		if k%200 == 199 {
			apart(t, all)
		}
	}
	for _, k := range all[3].r.keys() {
		all[3].remove(k)
	}
	apart(t, all)
}

// apart holds each of some trees against what it must have, and their pages against all that are taken.
func apart(t *testing.T, all []both) {
	t.Helper()
	var pages []int
	for i, b := range all {
		b.same(fmt.Sprintf("P10.8: tree %d", i))
		pages = append(pages, b.pages()...)
	}
	slices.Sort(pages)
	p := all[0].p
	if len(slices.Compact(slices.Clone(pages))) != len(pages) {
		t.Fatalf("P10.7: pages in common: %v", pages)
	}
	if taken := p.Pages() - p.First() - p.Free(); len(pages) != taken {
		t.Fatalf("P10.7: the trees have %d pages, but %d are taken", len(pages), taken)
	}
}

// TestP10_8OneTree: two Trees of one root and pager are the same, and a root that is made by hand anew is followed.
func TestP10_8OneTree(t *testing.T) {
	r := rand.New(rand.NewSource(111))
	b := bothOf(t, 500)
	c := both{t, b.p, treeOn(t, b.p, 0), b.r}
	for k := range 400 {
		x := []both{b, c}[r.Intn(2)]
		if r.Intn(2) == 0 {
			x.put(anyKey(r), anyValue(r))
		} else {
			x.remove(anyKey(r))
		}
		if k%40 == 0 {
			b.alone("P10.8: one of two Trees")
			c.alone("P10.8: the other one")
		}
	}
	// The tree is moved to another root.
	n, _ := b.p.Root(0)
	b.p.SetRoot(5, n)
	b.p.SetRoot(0, 0)
	both{t, b.p, treeOn(t, b.p, 5), b.r}.alone("P10.8: on another root")
	for _, x := range []both{b, c} {
		x.r = reckoning{}
		x.same("P10.8: the root that it hung on")
	}
}

// TestP10_7Touched: a Put and a Delete change few pages, in trees as deep as there are.
func TestP10_7Touched(t *testing.T) {
	r := rand.New(rand.NewSource(112))
	_, l, p := pagerOf(t, 300, 16000-310)
	b := both{t, p, treeOn(t, p, 0), reckoning{}}
	for n := 0; ; n++ {
		k := strings.Repeat("k", 195) + fmt.Sprintf("%05d", n)
		if e := b.x.Put(k, ""); e == api.ErrFull {
			break
		} else if e != api.OK {
			t.Fatal(e)
		}
		b.r[k] = ""
		if changed, e := p.Changed(); e != api.OK || changed > 32+8 {
			t.Fatalf("P10.7: a Put changes %d pages, %d", changed, e)
		}
		if e := p.Commit(); e != api.OK {
			t.Fatal(e)
		}
	}
	if len(b.r) < 7000 {
		t.Errorf("P10.7: %d keys fill %d pages", len(b.r), p.Pages())
	}
	keys := b.r.keys()
	if got, e := b.x.List("", "", len(keys)+1); !slices.Equal(got, keys) || e != api.OK {
		t.Fatalf("P10.5: List of %d keys: %d, %d", len(keys), len(got), e)
	}
	r.Shuffle(len(keys), func(i, j int) { keys[i], keys[j] = keys[j], keys[i] })
	for _, k := range keys {
		if there, e := b.x.Delete(k); !there || e != api.OK {
			t.Fatalf("P10.4: Delete: %v, %d", there, e)
		}
		delete(b.r, k)
		if changed, e := p.Changed(); e != api.OK || changed > 32+8 {
			t.Fatalf("P10.7: a Delete changes %d pages, %d", changed, e)
		}
		if e := p.Commit(); e != api.OK {
			t.Fatal(e)
		}
	}
	b.alone("P10.7: all taken out")
	both{t, pagerOn(t, l), treeOn(t, p, 0), b.r}.same("P10.7: opened anew")
}
