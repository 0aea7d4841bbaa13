package tree

import (
	"fmt"
	"math"
	"math/rand"
	"strings"
	"testing"

	"ciborium/api"
)

// some is a tree of keys of all kinds, short ones among long ones.
func some(t *testing.T, seed int64, keys int) both {
	t.Helper()
	r := rand.New(rand.NewSource(seed))
	b := bothOf(t, 800)
	for range keys {
		if k := anyKey(r); b.r[k] == "" {
			b.put(k, text(r.Intn(9), r.Intn(9)))
		}
	}
	return b
}

// TestP10_5List: all prefixes and all places behind which to begin, keys and texts beside them.
func TestP10_5List(t *testing.T) {
	b := bothOf(t, 800)
	for _, k := range []string{"a", "ab", "abc", "abd", "ac", "b", "ba", "\x00", "\x00\x00", "\xff", "\xff\xff", "a\xff", "a\x00", "B"} {
		b.put(k, k)
	}
	texts := append(b.r.keys(), "", "a\xff\xff", "aa", "abca", "c", "\x01", "\xff\xff\xff", strings.Repeat("a", 300), strings.Repeat("\xff", 201))
	for _, prefix := range texts {
		for _, after := range texts {
			for _, most := range []int{0, 1, 2, 3, 13, 14, 15, math.MaxInt} {
				b.list(prefix, after, most)
			}
		}
	}
	b.alone("P10.5: List changes nothing")
}

// TestP10_5ListDeep: so it is in a tree of many nodes.
func TestP10_5ListDeep(t *testing.T) {
	b := some(t, 105, 500)
	r := rand.New(rand.NewSource(106))
	keys := b.r.keys()
	for range 1500 {
		k, l := keys[r.Intn(len(keys))], keys[r.Intn(len(keys))]
		b.list(k[:r.Intn(len(k)+1)], l[:r.Intn(len(l)+1)], r.Intn(len(keys)))
		b.list("", k, r.Intn(5))
		b.list(k[:1], k, len(keys))
		b.list(k, "", len(keys))
	}
}

// TestP10_5Wrong: fewer than none.
func TestP10_5Wrong(t *testing.T) {
	b := some(t, 107, 30)
	for _, most := range []int{-1, -2, math.MinInt} {
		if l, e := b.x.List("", "", most); len(l) > 0 || e != api.ErrArg {
			t.Errorf("P10.5: List(%d): %q, %d", most, l, e)
		}
	}
	b.list("", "", 0)
}

// TestP10_8ListOn: called again with the last key as after, List goes through all keys, each once.
func TestP10_8ListOn(t *testing.T) {
	b := some(t, 108, 300)
	for _, most := range []int{1, 2, 7, 100, 1000} {
		for _, prefix := range []string{"", "k", "z", "a", "q"} {
			var all []string
			for after, rounds := "", 0; ; rounds++ {
				l, e := b.x.List(prefix, after, most)
				if e != api.OK || rounds > 1000 {
					t.Fatalf("P10.8: List: %d, in round %d", e, rounds)
				}
				if len(l) == 0 {
					break
				}
				all = append(all, l...)
				after = l[len(l)-1]
			}
			if want := b.r.list(prefix, "", 1000); fmt.Sprint(all) != fmt.Sprint(want) {
				t.Errorf("P10.8: %d at a time: %q, not %q", most, all, want)
			}
		}
	}
}
