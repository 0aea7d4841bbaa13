package tree

import (
	"fmt"
	"math/rand"
	"strings"
	"testing"

	"ciborium/api"
	"ciborium/page"
)

// call is something that is asked of a tree; what it answers besides its error must be nothing then.
type call struct {
	what string
	ask  func(x *Tree) (nothing bool, e api.Errno)
}

// callsOf are the calls that read a tree on the way to a key.
func callsOf(key string) []call {
	return []call{
		{"Get", func(x *Tree) (bool, api.Errno) {
			v, there, e := x.Get(key)
			return v == "" && !there, e
		}},
		{"Put", func(x *Tree) (bool, api.Errno) { return true, x.Put(key, "new") }},
		{"Put of a long value", func(x *Tree) (bool, api.Errno) { return true, x.Put(key, text(1, 4000)) }},
		{"Delete", func(x *Tree) (bool, api.Errno) {
			there, e := x.Delete(key)
			return !there, e
		}},
	}
}

// callsOfAll are those that read all of it.
func callsOfAll() []call {
	return []call{
		{"List", func(x *Tree) (bool, api.Errno) {
			l, e := x.List("", "", 1<<20)
			return len(l) == 0, e
		}},
		{"Count", func(x *Tree) (bool, api.Errno) {
			n, e := x.Count()
			return n == 0, e
		}},
		{"Pages", func(x *Tree) (bool, api.Errno) {
			l, e := x.Pages()
			return len(l) == 0, e
		}},
	}
}

// fails: calls answer an error, nothing else, and change nothing.
func fails(t *testing.T, what string, p *page.Pager, x *Tree, calls []call, want api.Errno) {
	t.Helper()
	before := at(p)
	for _, c := range calls {
		nothing, e := c.ask(x)
		answers(t, what+": "+c.what, e, want)
		if !nothing {
			t.Errorf("R2: %s: %s answers more than an error", what, c.what)
		}
		if at(p) != before {
			t.Fatalf("R2: %s: %s changed something", what, c.what)
		}
	}
}

// TestP10_8NoTree: pages that are no tree's hang on the root.
func TestP10_8NoTree(t *testing.T) {
	r := rand.New(rand.NewSource(120))
	pages := []api.Page{{}, {0: 255}, {0: 1, 1: 1}, {0: 2, 1: 2}}
	for range 300 {
		var x api.Page
		r.Read(x[:])
		pages = append(pages, x)
	}
	for i, x := range pages {
		_, _, p := pagerOf(t, 20, 60)
		n, _ := p.Take()
		p.Take()
		answers(t, "Put", p.Put(n, x), api.OK)
		answers(t, "SetRoot", p.SetRoot(i%8, n), api.OK)
		tree := treeOn(t, p, i%8)
		what := fmt.Sprintf("ErrTree: the page %x", x[:9])
		fails(t, what, p, tree, callsOf("a"), api.ErrTree)
		fails(t, what, p, tree, callsOfAll(), api.ErrTree)
		answers(t, "P10.3: ahead of that", tree.Put("", ""), api.ErrArg)
		answers(t, "P10.3: ahead of that", tree.Put("k", text(1, 4001)), api.ErrLong)
		_, e := tree.List("", "", -1)
		answers(t, "P10.5: ahead of that", e, api.ErrArg)
	}
}

// TestP10_8PagesThatAreGone: a page of the tree was given back by somebody else.
func TestP10_8PagesThatAreGone(t *testing.T) {
	for i := 0; ; i++ {
		b := bothOf(t, 300)
		for n := range 40 {
			b.put(strings.Repeat("k", 150)+fmt.Sprint(n), text(n, 1000*(n%2)))
		}
		pages := b.pages()
		if i == len(pages) {
			return
		}
		if b.p.Give(pages[i]) != api.OK {
			continue // the root's
		}
		for _, k := range b.r.keys() {
			if v, there, e := b.x.Get(k); e != api.ErrTree && (v != b.r[k] || !there || e != api.OK) {
				t.Errorf("ErrTree: Get: %d, %v, %d", len(v), there, e)
			}
		}
		fails(t, "ErrTree: a page is not taken", b.p, b.x, callsOfAll()[2:], api.ErrTree)
	}
}

// TestP10_8PageOfTwo: a page of the tree hangs on another root too.
func TestP10_8PageOfTwo(t *testing.T) {
	b := bothOf(t, 300)
	b.put("a", "")
	b.put("b", text(1, 600))
	top, _ := b.p.Root(0)
	for _, n := range b.pages() {
		b.p.SetRoot(4, n)
		if n == top {
			fails(t, "ErrTree: the root is another's", b.p, b.x, callsOf("a"), api.ErrTree)
		}
		fails(t, "ErrTree: a page is another's root", b.p, b.x, callsOf("b"), api.ErrTree)
		fails(t, "ErrTree: a page is another's root", b.p, b.x, callsOfAll()[2:], api.ErrTree)
		b.p.SetRoot(4, 0)
	}
	b.alone("P10.8: no page is another's")
}

// TestP10_8OnePageTwice: two values, and two children, with one page.
func TestP10_8OnePageTwice(t *testing.T) {
	b := bothOf(t, 300)
	one := valuePage(strings.Repeat("v", 9), 0)
	n, _ := b.p.Take()
	b.p.Put(n, one)
	top, _ := b.p.Take()
	leaf := &node{place: place{level: 1}, entries: []entry{{"a", 9, n}, {"b", 9, n}}}
	b.p.Put(top, leaf.lay())
	b.p.SetRoot(0, top)
	fails(t, "ErrTree: two values with a page", b.p, b.x, callsOfAll()[2:], api.ErrTree)
	leaf.entries = leaf.entries[:1]
	b.p.Put(n, leaf.lay())
	branch := &node{place: place{level: 2}, entries: []entry{{"", 0, n}, {"b", 0, n}}}
	b.p.Put(top, branch.lay())
	fails(t, "ErrTree: two children with a page", b.p, b.x, callsOfAll(), api.ErrTree)
	fails(t, "ErrTree: a child with keys ahead of it", b.p, b.x, callsOf("c"), api.ErrTree)
	branch.entries = []entry{{"", 0, top}, {"b", 0, top}}
	b.p.Put(top, branch.lay())
	fails(t, "ErrTree: a node below itself", b.p, b.x, callsOf("c"), api.ErrTree)
	fails(t, "ErrTree: a node below itself", b.p, b.x, callsOfAll(), api.ErrTree)
}

// TestP10_8Shapes: nodes that are not as they are laid, in a leaf that is read and in one that is only joined.
func TestP10_8Shapes(t *testing.T) {
	long := strings.Repeat("k", 200)
	leaf := func(entries ...entry) api.Page {
		return (&node{place: place{level: 1}, entries: entries}).lay()
	}
	branch := func(level int, entries ...entry) api.Page {
		return (&node{place: place{level: level}, entries: entries}).lay()
	}
	behind := leaf(entry{"m", 0, 0})
	behind[479] = 1
	// The number of the last entry's page is cut off by the page's end.
	cutOff := leaf(entry{"h" + long[1:], 0, 0}, entry{"i" + long[1:], 0, 0}, entry{"m" + long[:57], 0, 0})
	for what, x := range map[string]api.Page{
		"no key":                    leaf(),
		"an empty key":              leaf(entry{"", 0, 0}, entry{"m", 0, 0}),
		"a key too long":            leaf(entry{"m" + long, 0, 0}),
		"keys that fall":            leaf(entry{"n", 0, 0}, entry{"m", 0, 0}),
		"a key twice":               leaf(entry{"m", 0, 0}, entry{"m", 0, 0}),
		"keys ahead of the place":   leaf(entry{"a", 0, 0}, entry{"m", 0, 0}),
		"keys behind the place":     leaf(entry{"m", 0, 0}, entry{"t", 0, 0}),
		"a value too long":          leaf(entry{"m", 4001, 9}),
		"a value without a page":    leaf(entry{"m", 9, 0}),
		"a page without a value":    leaf(entry{"m", 0, 9}),
		"something behind":          behind,
		"an entry that is cut off":  cutOff,
		"a branch among leaves":     branch(2, entry{"g", 0, 2}, entry{"m", 0, 3}),
		"a branch above a branch":   branch(3, entry{"g", 0, 2}, entry{"m", 0, 3}),
		"a level that there is not": branch(14, entry{"g", 0, 2}, entry{"m", 0, 3}),
		"the level 0":               branch(0, entry{"g", 0, 2}),
	} {
		b := bothOf(t, 300)
		var pages []int
		for range 4 {
			n, _ := b.p.Take()
			pages = append(pages, n)
		}
		b.p.Put(pages[0], branch(2, entry{"", 0, pages[1]}, entry{"g", 0, pages[2]}, entry{"t", 0, pages[3]}))
		b.p.Put(pages[1], leaf(entry{"a", 0, 0}))
		b.p.Put(pages[2], x)
		b.p.Put(pages[3], leaf(entry{"t", 0, 0}))
		b.p.SetRoot(0, pages[0])
		fails(t, "ErrTree: "+what, b.p, b.x, callsOf("m"), api.ErrTree)
		fails(t, "ErrTree: "+what, b.p, b.x, callsOfAll(), api.ErrTree)
		for _, k := range []string{"a", "t"} {
			fails(t, "ErrTree: "+what+", beside what becomes low", b.p, b.x, callsOf(k)[3:], api.ErrTree)
			if _, there, e := b.x.Get(k); !there || e != api.OK {
				t.Errorf("ErrTree: %s: beside it: %v, %d", what, there, e)
			}
		}
	}
}

// TestP10_8Levels: there are at most thirteen levels, since more have more nodes than there may be pages.
func TestP10_8Levels(t *testing.T) {
	b := bothOf(t, 300)
	low, _ := b.p.Take()
	b.p.Put(low, (&node{place: place{level: 1}, entries: []entry{{"a", 0, 0}}}).lay())
	for level := 2; level <= 20; level++ {
		n, _ := b.p.Take()
		b.p.Put(n, (&node{place: place{level: level}, entries: []entry{{"", 0, low}, {string([]byte{byte('b' + level)}), 0, 9999}}}).lay())
		b.p.SetRoot(0, n)
		low = n
		if level > 13 {
			fails(t, fmt.Sprintf("ErrTree: %d levels", level), b.p, b.x, callsOf("a"), api.ErrTree)
		} else if _, there, e := b.x.Get("a"); !there || e != api.OK {
			t.Errorf("P10.2: %d levels: %v, %d", level, there, e)
		}
	}
}

// TestP10_8Branches: branches with children that are too few, too many, or in no order.
func TestP10_8Branches(t *testing.T) {
	long := strings.Repeat("k", 201)
	for what, entries := range map[string][]entry{
		"no child":       {},
		"one child":      {{"", 0, 3}},
		"four children":  {{"", 0, 3}, {"b", 0, 4}, {"c", 0, 5}, {"d", 0, 6}},
		"keys that fall": {{"", 0, 3}, {"c", 0, 4}, {"b", 0, 5}},
		"an empty key":   {{"", 0, 3}, {"", 0, 4}},
		"a key too long": {{"", 0, 3}, {long, 0, 4}},
		"no such page":   {{"", 0, 9999}, {"b", 0, 9999}},
		"the page 0":     {{"", 0, 0}, {"b", 0, 0}},
		"a page of bits": {{"", 0, 1}, {"b", 0, 1}},
		"a free page":    {{"", 0, 200}, {"b", 0, 200}},
		"a far page":     {{"", 0, 1<<32 - 1}, {"b", 0, 1 << 31}},
	} {
		b := bothOf(t, 300)
		top, _ := b.p.Take()
		for i := range 4 {
			n, _ := b.p.Take()
			b.p.Put(n, (&node{place: place{level: 1}, entries: []entry{{string([]byte{byte('a' + i)}), 0, 0}}}).lay())
		}
		b.p.Put(top, (&node{place: place{level: 2}, entries: entries}).lay())
		b.p.SetRoot(0, top)
		fails(t, "ErrTree: "+what, b.p, b.x, callsOfAll(), api.ErrTree)
		for _, k := range []string{"a", "c", "zz"} {
			if !strings.Contains("keys that fall, a key too long", what) || k == "a" {
				fails(t, "ErrTree: "+what, b.p, b.x, callsOf(k), api.ErrTree)
			}
		}
	}
}

// TestP10_8Chains: pages of a value that are not as they are laid.
func TestP10_8Chains(t *testing.T) {
	full, rest := strings.Repeat("v", 476), "rest"
	for what, l := range map[string][2]api.Page{
		"it ends too soon":        {valuePage(full, 0), valuePage(rest, 0)},
		"it does not end":         {valuePage(full, 4), valuePage(rest, 4)},
		"it goes to itself":       {valuePage(full, 3), valuePage(rest, 0)},
		"it goes to the root":     {valuePage(full, 2), valuePage(rest, 0)},
		"it goes nowhere":         {valuePage(full, 1<<31), valuePage(rest, 0)},
		"it goes to a page 0":     {valuePage(full, 1), valuePage(rest, 0)},
		"it goes to free pages":   {valuePage(full, 99), valuePage(rest, 0)},
		"something stands behind": {valuePage(full, 4), valuePage(rest+"x", 0)},
	} {
		b := bothOf(t, 300)
		var pages []int
		for range 3 {
			n, _ := b.p.Take()
			pages = append(pages, n)
		}
		b.p.Put(pages[0], (&node{place: place{level: 1}, entries: []entry{{"a", 0, 0}, {"m", 480, pages[1]}}}).lay())
		b.p.Put(pages[1], l[0])
		b.p.Put(pages[2], l[1])
		b.p.SetRoot(0, pages[0])
		fails(t, "ErrTree: "+what, b.p, b.x, callsOf("m"), api.ErrTree)
		fails(t, "ErrTree: "+what, b.p, b.x, callsOfAll()[2:], api.ErrTree)
		b.get("b")
		if _, there, e := b.x.Get("a"); !there || e != api.OK {
			t.Errorf("ErrTree: %s: beside it: %v, %d", what, there, e)
		}
	}
}

// TestR1AnyBits: any bit of any page of a tree is another one: all calls end, and an error changes nothing.
func TestR1AnyBits(t *testing.T) {
	r := rand.New(rand.NewSource(121))
	_, _, p := pagerOf(t, 200, 400)
	b := both{t, p, treeOn(t, p, 0), reckoning{}}
	for len(b.r) < 30 {
		b.put(anyKey(r), anyValue(r))
	}
	answers(t, "Commit", commitAll(b), api.OK)
	pages := b.pages()
	keys := b.r.keys()
	for range 1000 {
		n := pages[r.Intn(len(pages))]
		x, _ := p.Get(n)
		j := r.Intn(8)
		if r.Intn(3) == 0 {
			j = r.Intn(480)
		}
		x[j] ^= 1 << r.Intn(8)
		p.Put(n, x)
		before := at(p)
		for _, c := range append(callsOfAll(), callsOf(keys[r.Intn(len(keys))])...) {
			nothing, e := c.ask(b.x)
			if e == api.OK {
				before = at(p)
			} else if !nothing || at(p) != before {
				t.Fatalf("R2: %s: error %d, and more", c.what, e)
			}
		}
		p.Rollback()
	}
	b.alone("R1: all is as it was")
}

// commitAll commits what may be more than the log takes at once.
func commitAll(b both) api.Errno {
	want := b.r.copy()
	b.p.Rollback()
	for k := range b.r {
		delete(b.r, k)
	}
	for _, k := range want.keys() {
		b.put(k, want[k])
		if e := b.p.Commit(); e != api.OK {
			return e
		}
	}
	return api.OK
}

// TestP10_5ListReads: List reads no more than it needs for what it tells: not what stands ahead of it, nor what stands behind.
func TestP10_5ListReads(t *testing.T) {
	name := func(i int) string { return fmt.Sprintf("%c", 'a'+i) + strings.Repeat("k", 190) }
	for _, bad := range []int{0, 25} {
		d, l, p := pagerOf(t, 200, 300)
		b := both{t, p, treeOn(t, p, 0), reckoning{}}
		for i := range 26 {
			b.put(name(i), "")
			answers(t, "Commit", p.Commit(), api.OK)
		}
		at := leafOf(t, b, name(bad))
		answers(t, "Checkpoint", l.Checkpoint(), api.OK)
		answers(t, "Write", d.Write(d.Size()-l.Pages()+at, api.Sector{}), api.OK)
		if _, e := b.x.List("", "", 26); e != api.ErrRot {
			t.Errorf("P10.5: List of all: %d", e)
		}
		if bad == 0 {
			b.list("", name(8), 26)
			b.list("m", "", 26)
			b.list("m", "a", 26)
			b.list("a", name(8), 26)
		} else {
			b.list("", "", 20)
			b.list("a", "", 26)
			b.list("m", name(3), 26)
			b.list("m", "z", 0)
		}
	}
}

// leafOf is the page in which a key stands.
func leafOf(t *testing.T, b both, key string) (n int) {
	t.Helper()
	answers(t, "all nodes", b.x.walk(all, func(_ *work, x *node) api.Errno {
		if _, there := x.spot(key); there && x.isLeaf() {
			n = x.page
		}
		return api.OK
	}), api.OK)
	return n
}

// rotten is a committed tree, of which the home of one of its pages is not what was written.
func rotten(t *testing.T, i int) (b both, done bool) {
	t.Helper()
	d, l, p := pagerOf(t, 200, 300)
	b = both{t, p, treeOn(t, p, 0), reckoning{}}
	for n := range 24 {
		b.put(strings.Repeat("k", 150)+fmt.Sprint(n), text(n, 700*(n%2)))
	}
	answers(t, "Commit", commitAll(b), api.OK)
	pages := b.pages()
	if i == len(pages) {
		return b, true
	}
	answers(t, "Checkpoint", l.Checkpoint(), api.OK)
	home := d.Size() - l.Pages() + pages[i]
	answers(t, "Write", d.Write(home, api.Sector{}), api.OK)
	return b, false
}

// TestP10_8Rot: what can't be read is told by the log's error; what does not need it goes on, and what fails changes nothing.
func TestP10_8Rot(t *testing.T) {
	met := map[string]int{}
	for i := 0; ; i++ {
		b, done := rotten(t, i)
		if done {
			break
		}
		fails(t, "P10.6: rot", b.p, b.x, callsOfAll()[2:], api.ErrRot)
		before := at(b.p)
		for _, k := range b.r.keys() {
			for _, c := range callsOf(k) {
				nothing, e := c.ask(b.x)
				met[fmt.Sprint(c.what, e)]++
				if e == api.OK {
					answers(t, "Rollback", b.p.Rollback(), api.OK)
				} else if e != api.ErrRot || !nothing || at(b.p) != before {
					t.Fatalf("R2: rot: %s: error %d, %v", c.what, e, nothing)
				}
			}
		}
	}
	for _, c := range callsOf("") {
		if met[fmt.Sprint(c.what, api.OK)] == 0 || met[fmt.Sprint(c.what, api.ErrRot)] == 0 {
			t.Errorf("P10.8: rot: %s did not meet both: %v", c.what, met)
		}
	}
}

// TestP10_8Dead: of a disk whose power is off what is to be read is told ErrDead.
func TestP10_8Dead(t *testing.T) {
	d, _, p := pagerOf(t, 20, 60)
	b := both{t, p, treeOn(t, p, 0), reckoning{}}
	b.put("a", "1")
	answers(t, "Commit", p.Commit(), api.OK)
	b.put("b", "2")
	answers(t, "Rollback", p.Rollback(), api.OK)
	d.Off()
	answers(t, "the log's Commit", p.Put(3, api.Page{1}), api.OK)
	answers(t, "the log's Commit", p.Commit(), api.ErrDead)
	answers(t, "Rollback", p.Rollback(), api.OK)
	fails(t, "P10.8: dead", p, b.x, callsOf("a"), api.ErrDead)
	fails(t, "P10.8: dead", p, b.x, callsOfAll(), api.ErrDead)
	answers(t, "P10.3: ahead of that", b.x.Put("", ""), api.ErrArg)
	answers(t, "P10.3: ahead of that", b.x.Put("a", text(1, 4001)), api.ErrLong)
	answers(t, "On", d.On(nil), api.OK)
	b.p = openedOn(t, d)
	b.x, b.r = treeOn(t, b.p, 0), reckoning{"a": "1"}
	b.alone("P10.8: opened anew")
}
