package tree

import (
	"fmt"
	"math/rand"
	"slices"
	"strings"
	"testing"

	"ciborium/api"
	"ciborium/disk"
	"ciborium/page"
	"ciborium/wal"
)

// answers holds a call's error against what it must be.
func answers(t *testing.T, what string, got, want api.Errno) {
	t.Helper()
	if got != want {
		t.Errorf("%s: %d, not %d", what, got, want)
	}
}

// pagerOf is a fresh pager with so many data pages, on a log of so many sectors.
func pagerOf(t *testing.T, log, data int) (*disk.Disk, *wal.Log, *page.Pager) {
	t.Helper()
	bits := 1
	for bits*api.PageBits < data+1+bits {
		bits++
	}
	d, e := disk.New(2 + log + 1 + bits + data)
	answers(t, "disk.New", e, api.OK)
	answers(t, "wal.Format", wal.Format(d, log), api.OK)
	l, e := wal.Open(d)
	answers(t, "wal.Open", e, api.OK)
	answers(t, "page.Make", page.Make(l), api.OK)
	p := pagerOn(t, l)
	if p.Free() != data {
		t.Fatalf("%d pages are free, not %d", p.Free(), data)
	}
	return d, l, p
}

func pagerOn(t *testing.T, l *wal.Log) *page.Pager {
	t.Helper()
	p, e := page.Open(l)
	if e != api.OK {
		t.Fatalf("page.Open: %d", e)
	}
	return p
}

// openedOn is a pager on the log of a disk.
func openedOn(t *testing.T, d *disk.Disk) *page.Pager {
	t.Helper()
	l, e := wal.Open(d)
	if e != api.OK {
		t.Fatalf("wal.Open: %d", e)
	}
	return pagerOn(t, l)
}

func treeOn(t *testing.T, p *page.Pager, root int) *Tree {
	t.Helper()
	x, e := New(p, root)
	if e != api.OK || x == nil {
		t.Fatalf("P10.1: New: %d", e)
	}
	return x
}

// text is so many bytes, which hang on seed and on their places.
func text(seed, bytes int) string {
	b := make([]byte, bytes)
	for i := range b {
		b[i] = byte(seed*31 + i*7 + i>>8)
	}
	return string(b)
}

// takes is how many pages a value takes.
func takes(value string) int {
	n := len(value) / 476
	if len(value)%476 > 0 {
		n++
	}
	return n
}

// reckoning is what a tree must have.
type reckoning map[string]string

// keys are its keys, rising.
func (r reckoning) keys() []string {
	var all []string
	for k := range r {
		all = append(all, k)
	}
	slices.Sort(all)
	return all
}

// list is what List must tell.
func (r reckoning) list(prefix, after string, most int) []string {
	var all []string
	for _, k := range r.keys() {
		if len(all) < most && strings.HasPrefix(k, prefix) && (after == "" || k > after) {
			all = append(all, k)
		}
	}
	return all
}

func (r reckoning) copy() reckoning {
	c := reckoning{}
	for k, v := range r {
		c[k] = v
	}
	return c
}

// valuePages is how many pages all its values take.
func (r reckoning) valuePages() int {
	n := 0
	for _, v := range r {
		n += takes(v)
	}
	return n
}

// putAnswers is what Put must answer.
func (r reckoning) putAnswers(key, value string, free int) api.Errno {
	old, has := r[key]
	switch {
	case len(key) < 1 || len(key) > 200:
		return api.ErrArg
	case len(value) > 4000:
		return api.ErrLong
	case has && takes(old) >= takes(value):
		return api.OK
	case free < 24+takes(value):
		return api.ErrFull
	}
	return api.OK
}

// at is all that a pager has at hand, as a text.
func at(p *page.Pager) string {
	var b strings.Builder
	for i := range api.Roots {
		n, e := p.Root(i)
		fmt.Fprint(&b, n, e, " ")
	}
	for n := range p.Pages() {
		if p.Taken(n) {
			x, e := p.Get(n)
			fmt.Fprint(&b, n, ":", e)
			b.Write(x[:])
		}
	}
	return b.String()
}

// both is a tree and what it must have.
type both struct {
	t *testing.T
	p *page.Pager
	x *Tree
	r reckoning
}

func bothOf(t *testing.T, data int) both {
	t.Helper()
	_, _, p := pagerOf(t, 20, data)
	return both{t, p, treeOn(t, p, 0), reckoning{}}
}

func (b both) put(key, value string) api.Errno {
	b.t.Helper()
	want, before := b.r.putAnswers(key, value, b.p.Free()), ""
	if want != api.OK {
		before = at(b.p)
	}
	got := b.x.Put(key, value)
	answers(b.t, fmt.Sprintf("P10.3: Put(%.20q of %d: %d bytes)", key, len(key), len(value)), got, want)
	if want == api.OK {
		b.r[key] = value
	} else if at(b.p) != before {
		b.t.Errorf("R2: a Put that answers %d changed something", want)
	}
	return got
}

func (b both) remove(key string) {
	b.t.Helper()
	_, want := b.r[key]
	got, e := b.x.Delete(key)
	if got != want || e != api.OK {
		b.t.Errorf("P10.4: Delete(%.20q of %d): %v, %d; not %v", key, len(key), got, e, want)
	}
	delete(b.r, key)
}

func (b both) get(key string) {
	b.t.Helper()
	want, has := b.r[key]
	got, there, e := b.x.Get(key)
	if got != want || there != has || e != api.OK {
		b.t.Errorf("P10.2: Get(%.20q of %d): %d bytes, %v, %d; not %d, %v", key, len(key), len(got), there, e, len(want), has)
	}
}

func (b both) list(prefix, after string, most int) {
	b.t.Helper()
	want := b.r.list(prefix, after, most)
	got, e := b.x.List(prefix, after, most)
	if !slices.Equal(got, want) || e != api.OK {
		b.t.Errorf("P10.5: List(%.20q, %.20q, %d): %.20q, %d; not %.20q", prefix, after, most, got, e, want)
	}
}

// pages is the tree's pages, held against P10.6 and P10.7.
func (b both) pages() []int {
	b.t.Helper()
	all, e := b.x.Pages()
	nodes := len(all) - b.r.valuePages()
	switch n := len(b.r); {
	case e != api.OK:
		b.t.Errorf("P10.6: Pages: %d", e)
	case nodes < 0 || n > 0 && nodes == 0 || n == 0 && len(all) > 0 || nodes > 4*n+24:
		b.t.Errorf("P10.7: %d pages besides those of values, of %d keys", nodes, n)
	}
	for i, n := range all {
		if i > 0 && n <= all[i-1] || !b.p.Taken(n) || n < b.p.First() {
			b.t.Errorf("P10.6: Pages: %d, behind %v", n, all[:i])
		}
	}
	return all
}

// same holds all that a tree tells against what it must have.
func (b both) same(what string) {
	b.t.Helper()
	if n, e := b.x.Count(); n != len(b.r) || e != api.OK {
		b.t.Errorf("%s: Count: %d, %d; not %d", what, n, e, len(b.r))
	}
	b.list("", "", len(b.r)+1)
	for k := range b.r {
		b.get(k)
	}
	b.pages()
	if n, e := b.p.Root(b.x.root); (n == 0) != (len(b.r) == 0) || e != api.OK {
		b.t.Errorf("%s: root %d of %d keys", what, n, len(b.r))
	}
	if b.t.Failed() {
		b.t.Fatal(what)
	}
}

// alone is same, of a tree that is the only one on its pager: all pages that are taken are its own.
func (b both) alone(what string) {
	b.t.Helper()
	b.same(what)
	if taken := b.p.Pages() - b.p.First() - b.p.Free(); len(b.pages()) != taken {
		b.t.Fatalf("P10.7: %s: %d pages, but %d are taken", what, len(b.pages()), taken)
	}
}

// anyKey is a key out of few or many, short or long, of any bytes.
func anyKey(r *rand.Rand) string {
	switch r.Intn(6) {
	case 0:
		return string([]byte{byte(r.Intn(256))})
	case 1:
		return "ab"[:1+r.Intn(2)] + fmt.Sprint(r.Intn(40))
	case 2:
		return strings.Repeat("k", r.Intn(5)*45+1) + fmt.Sprint(r.Intn(60))
	case 3:
		return text(r.Intn(60), 200)
	case 4:
		return strings.Repeat("\xff", r.Intn(8)+1) + strings.Repeat("\x00", r.Intn(4))
	}
	return strings.Repeat("z", 195+r.Intn(3)) + string([]byte{byte(r.Intn(256)), byte(r.Intn(2))})
}

// anyValue is one of any length, those that just fill pages too.
func anyValue(r *rand.Rand) string {
	switch r.Intn(8) {
	case 0:
		return text(r.Intn(200), r.Intn(4001))
	case 1:
		return text(r.Intn(200), min(4000, 476*r.Intn(10)+r.Intn(3)))
	case 2, 3:
		return ""
	}
	return text(r.Intn(200), r.Intn(60))
}
