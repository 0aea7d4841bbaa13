package tree

import (
	"fmt"
	"math/rand"
	"slices"
	"strings"
	"testing"

	"ciborium/api"
	"ciborium/page"
)

// leave takes pages beside the tree, till so many are free.
func leave(t *testing.T, p *page.Pager, free int) (taken []int) {
	t.Helper()
	for p.Free() > free {
		n, e := p.Take()
		if e != api.OK {
			t.Fatalf("Take: %d", e)
		}
		taken = append(taken, n)
	}
	if p.Free() != free {
		t.Fatalf("%d pages are free, not %d", p.Free(), free)
	}
	return taken
}

// TestP10_3FullNew: a new key needs 24 free pages, and those of its value.
func TestP10_3FullNew(t *testing.T) {
	for _, bytes := range []int{0, 1, 476, 477, 3808, 3809, 4000} {
		v := text(7, bytes)
		for _, some := range []bool{false, true} {
			for free, want := range map[int]api.Errno{24 + takes(v): api.OK, 23 + takes(v): api.ErrFull, takes(v): api.ErrFull, 0: api.ErrFull, 25 + takes(v): api.OK} {
				b := bothOf(t, 70)
				if some {
					b.put("a", text(1, 100))
				}
				leave(t, b.p, free)
				answers(t, fmt.Sprintf("P10.3: Put of %d bytes, %d pages free", bytes, free), b.put("k", v), want)
				b.same("P10.3: full, or not")
			}
		}
	}
}

// TestP10_3FullOver: over a value that takes as many pages or more there is always room, else as much is needed as for a new key.
func TestP10_3FullOver(t *testing.T) {
	lengths := []int{0, 1, 476, 477, 952, 3808, 4000}
	for _, old := range lengths {
		for _, bytes := range lengths {
			v := text(9, bytes)
			for _, free := range []int{0, 1, 23, 23 + takes(v), 24 + takes(v)} {
				b := bothOf(t, 70)
				b.put("k", text(1, old))
				b.put("l", text(2, 30))
				leave(t, b.p, free)
				want := api.OK
				if takes(text(1, old)) < takes(v) && free < 24+takes(v) {
					want = api.ErrFull
				}
				answers(t, fmt.Sprintf("P10.3: Put of %d bytes over %d, %d pages free", bytes, old, free), b.put("k", v), want)
				answers(t, "P10.3: too long", b.put("k", text(1, 4001)), api.ErrLong)
				b.same("P10.3: full, or not")
			}
		}
	}
}

// TestP10_3FullOrder: a key that is none, and a value that is too long, are told ahead of that there is no room.
func TestP10_3FullOrder(t *testing.T) {
	b := bothOf(t, 30)
	leave(t, b.p, 0)
	answers(t, "P10.3: no key", b.put("", "x"), api.ErrArg)
	answers(t, "P10.3: no key, too long", b.put(strings.Repeat("k", 201), text(1, 4001)), api.ErrArg)
	answers(t, "P10.3: too long", b.put("k", text(1, 4001)), api.ErrLong)
	answers(t, "P10.3: no room", b.put("k", ""), api.ErrFull)
}

// TestP10_3TakenAgain: a value put over one that takes as many pages or more has pages of that; the others are free at once.
func TestP10_3TakenAgain(t *testing.T) {
	for _, old := range []int{4000, 3000, 952, 476, 0} {
		for bytes := old; bytes >= 0; bytes = min(bytes-1, bytes-200) {
			b := bothOf(t, 70)
			b.put("first", text(4, 500))
			b.put("k", text(1, old))
			before := b.pages()
			b.remove("first")
			free := b.p.Free()
			b.put("k", text(2, bytes))
			if won := takes(text(1, old)) - takes(text(2, bytes)); b.p.Free() != free+won {
				t.Errorf("P10.7: %d bytes over %d: %d pages are free, not %d", bytes, old, b.p.Free(), free+won)
			}
			for _, n := range b.pages() {
				if !slices.Contains(before, n) {
					t.Errorf("P10.3: %d bytes over %d: page %d", bytes, old, n)
				}
			}
			b.alone("P10.3: pages taken again")
		}
	}
}

// TestP10_4Full: what is there can be taken out, and put over, in any order, while no page is free at all.
func TestP10_4Full(t *testing.T) {
	r := rand.New(rand.NewSource(104))
	for range 8 {
		b := bothOf(t, 400)
		for b.p.Free() > 60 {
			b.put(anyKey(r), text(r.Intn(9), r.Intn(3)*r.Intn(300)))
		}
		mine := leave(t, b.p, 0)
		keys := b.r.keys()
		r.Shuffle(len(keys), func(i, j int) { keys[i], keys[j] = keys[j], keys[i] })
		for i, k := range keys {
			if i%3 == 0 {
				answers(t, "P10.3: Put over, no page free", b.put(k, text(i, takes(b.r[k])*476)), api.OK)
			}
			b.remove(k)
			mine = append(mine, leave(t, b.p, 0)...)
			if i%8 == 0 {
				b.same("P10.4: no page is free")
			}
		}
		b.same("P10.4: all is taken out")
		if len(mine) != 400 {
			t.Errorf("P10.7: %d pages of 400 came back", len(mine))
		}
	}
}

// TestP10_7Room: till it says that it is full a tree takes all pages but some; there are as many keys as four pages for each would have.
func TestP10_7Room(t *testing.T) {
	for _, bytes := range []int{3, 40, 199, 200} {
		b := bothOf(t, 1000)
		n := 0
		for ; b.put(text(n*89, bytes-3)+fmt.Sprintf("%03d", n*389%1000), "") == api.OK && n < 1000; n++ {
		}
		if n < 1000 && 4*n+48 < 1000 {
			t.Errorf("P10.7: of %d bytes there is room for %d keys", bytes, n)
		}
		b.alone("P10.7: full")
	}
}
