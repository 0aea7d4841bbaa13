package store

import (
	"fmt"
	"maps"
	"math/rand"
	"slices"
	"strings"
	"testing"

	"ciborium/api"
	"ciborium/disk"
)

// answers holds a call's error against what it must be.
func answers(t *testing.T, what string, got, want api.Errno) {
	t.Helper()
	if got != want {
		t.Errorf("%s: %d, not %d", what, got, want)
	}
}

// diskOf is a fresh disk.
func diskOf(t *testing.T, sectors int) *disk.Disk {
	t.Helper()
	d, e := disk.New(sectors)
	answers(t, "disk.New", e, api.OK)
	return d
}

// opened is the store of a disk.
func opened(t *testing.T, d *disk.Disk) *Store {
	t.Helper()
	s, e := Open(d)
	if e != api.OK || s == nil {
		t.Fatalf("P11.1: Open: %d", e)
	}
	return s
}

// dataPages is how many data pages there are on a disk with a log.
func dataPages(sectors, log int) int {
	pages := sectors - 2 - log
	return pages - 1 - (pages+3839)/3840
}

// text is so many bytes, which hang on seed and on their places.
func text(seed, bytes int) string {
	b := make([]byte, bytes)
	for i := range b {
		b[i] = byte(seed*31 + i*7 + i>>8)
	}
	return string(b)
}

// takes is how many pages a value takes.
func takes(value string) int { return (len(value) + 475) / 476 }

// machine is a store of maps.
type machine struct {
	committed, now map[string]string
}

func (m *machine) commit()   { m.committed = maps.Clone(m.now) }
func (m *machine) rollback() { m.now = maps.Clone(m.committed) }

// keys are the keys of a map that begin with prefix and stand behind after, rising.
func keys(m map[string]string, prefix, after string) []string {
	var all []string
	for k := range m {
		if strings.HasPrefix(k, prefix) && k > after {
			all = append(all, k)
		}
	}
	slices.Sort(all)
	return all
}

// valuePages is how many pages all values of a map take.
func valuePages(m map[string]string) int {
	n := 0
	for _, v := range m {
		n += takes(v)
	}
	return n
}

// putAnswers is what Put must answer.
func (m *machine) putAnswers(key, value string, free int) api.Errno {
	old, has := m.now[key]
	switch {
	case len(key) < 1 || len(key) > 200:
		return api.ErrArg
	case len(value) > 4000:
		return api.ErrLong
	case has && takes(old) >= takes(value):
		return api.OK
	case free < 24+takes(value):
		return api.ErrFull
	}
	return api.OK
}

// both is a store and what it must be.
type both struct {
	t    *testing.T
	d    *disk.Disk
	s    *Store
	m    *machine
	data int
}

func bothOf(t *testing.T, sectors, log int) *both {
	t.Helper()
	d := diskOf(t, sectors)
	answers(t, "P11.1: Make", Make(d, log), api.OK)
	return &both{t, d, opened(t, d), &machine{}, dataPages(sectors, log)}
}

func (b *both) put(key, value string) api.Errno {
	b.t.Helper()
	want := b.m.putAnswers(key, value, b.s.Free())
	if 4*len(b.m.now)+48+valuePages(b.m.now)+takes(value) <= b.data && want == api.ErrFull {
		b.t.Errorf("P11.6: no room for %d pages beside %d keys, %d free of %d", takes(value), len(b.m.now), b.s.Free(), b.data)
	}
	answers(b.t, fmt.Sprintf("P11.2: Put(%.20q of %d: %d bytes)", key, len(key), len(value)), b.s.Put(key, value), want)
	if want == api.OK {
		b.m.now = maps.Clone(b.m.now)
		if b.m.now == nil {
			b.m.now = map[string]string{}
		}
		b.m.now[key] = value
	}
	return want
}

func (b *both) remove(key string) {
	b.t.Helper()
	_, want := b.m.now[key]
	got, e := b.s.Delete(key)
	if got != want || e != api.OK {
		b.t.Errorf("P11.2: Delete(%.20q of %d): %v, %d; not %v", key, len(key), got, e, want)
	}
	b.m.now = maps.Clone(b.m.now)
	delete(b.m.now, key)
}

func (b *both) get(key string) {
	b.t.Helper()
	want, has := b.m.now[key]
	got, there, e := b.s.Get(key)
	if got != want || there != has || e != api.OK {
		b.t.Errorf("P11.2: Get(%.20q of %d): %d bytes, %v, %d; not %d, %v", key, len(key), len(got), there, e, len(want), has)
	}
}

func (b *both) list(prefix, after string, most int) {
	b.t.Helper()
	want := keys(b.m.now, prefix, after)
	want = want[:min(most, len(want))]
	got, e := b.s.List(prefix, after, most)
	if !slices.Equal(got, want) || e != api.OK {
		b.t.Errorf("P11.2: List(%.20q, %.20q, %d): %.20q, %d; not %.20q", prefix, after, most, got, e, want)
	}
}

func (b *both) all(prefix string) {
	b.t.Helper()
	holds(b.t, fmt.Sprintf("P11.3: All(%.20q)", prefix), told(b.s.All(prefix)), b.m.now, prefix)
}

func (b *both) commit() {
	b.t.Helper()
	answers(b.t, "P11.4: Commit", b.s.Commit(), api.OK)
	b.m.commit()
}

func (b *both) rollback() {
	b.t.Helper()
	answers(b.t, "P11.5: Rollback", b.s.Rollback(), api.OK)
	b.m.rollback()
}

// anew opens the store again: what was at hand is let go.
func (b *both) anew() {
	b.t.Helper()
	b.s = opened(b.t, b.d)
	b.m.rollback()
}

// same holds all that a store tells against what it must be.
func (b *both) same(what string) {
	b.t.Helper()
	b.list("", "", len(b.m.now)+1)
	for k := range b.m.now {
		b.get(k)
	}
	b.all("")
	b.room(what)
	if b.t.Failed() {
		b.t.Fatal(what)
	}
}

// room holds Free against the pages that keys and values have.
func (b *both) room(what string) {
	b.t.Helper()
	n, v := len(b.m.now), valuePages(b.m.now)
	nodes := b.data - b.s.Free() - v
	if nodes < 0 || n > 0 && nodes == 0 || n == 0 && nodes > 0 || nodes > 4*n+24 {
		b.t.Errorf("P11.2: %s: Free: %d of %d, of %d keys whose values take %d", what, b.s.Free(), b.data, n, v)
	}
}

// told is what an iterator tells.
func told(all func(func(string, string) bool)) []pair {
	var l []pair
	for k, v := range all {
		l = append(l, pair{k, v})
	}
	return l
}

// holds holds what an iterator has told against a map.
func holds(t *testing.T, what string, got []pair, m map[string]string, prefix string) {
	t.Helper()
	var want []pair
	for _, k := range keys(m, prefix, "") {
		want = append(want, pair{k, m[k]})
	}
	if !slices.Equal(got, want) {
		t.Errorf("%s: %d pairs, not %d: %.60q", what, len(got), len(want), got)
	}
}

// anyKey is a key out of few or many, short or long, of any bytes.
func anyKey(r *rand.Rand) string {
	switch r.Intn(6) {
	case 0:
		return string([]byte{byte(r.Intn(256))})
	case 1:
		return "ab"[:1+r.Intn(2)] + fmt.Sprint(r.Intn(40))
	case 2:
		return strings.Repeat("k", r.Intn(5)*45+1) + fmt.Sprint(r.Intn(60))
	case 3:
		return text(r.Intn(60), 200)
	case 4:
		return strings.Repeat("\xff", r.Intn(8)+1) + strings.Repeat("\x00", r.Intn(4))
	}
	return strings.Repeat("z", 195+r.Intn(3)) + string([]byte{byte(r.Intn(256)), byte(r.Intn(2))})
}

// anyValue is one of any length, those that just fill pages too.
func anyValue(r *rand.Rand) string {
	switch r.Intn(8) {
	case 0:
		return text(r.Intn(200), r.Intn(4001))
	case 1:
		return text(r.Intn(200), min(4000, 476*r.Intn(10)+r.Intn(3)))
	case 2, 3:
		return ""
	}
	return text(r.Intn(200), r.Intn(60))
}

// loaded is a disk with such sectors.
func loaded(t *testing.T, sectors []api.Sector) *disk.Disk {
	t.Helper()
	d, e := disk.Load(sectors)
	answers(t, "disk.Load", e, api.OK)
	return d
}
