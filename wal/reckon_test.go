package wal

import (
	"encoding/binary"
	"fmt"
	"hash/crc32"
	"slices"
	"testing"

	"ciborium/api"
	"ciborium/disk"
)

// of is a page all of whose bytes hang on b, each on its place too; of 0 zeros.
func of(b byte) (x api.Page) {
	if b == 0 {
		return x
	}
	for j := range x {
		x[j] = b + byte(j)*7 + byte(j>>8)
	}
	return x
}

// to are images of these pages, none like another.
func to(b byte, pages ...int) []api.Image {
	var w []api.Image
	for k, p := range pages {
		x := of(b)
		x[9], x[479] = byte(k), byte(p)
		w = append(w, api.Image{Page: p, Data: x})
	}
	return w
}

// upTo are the numbers from 0 to n - 1.
func upTo(n int) []int {
	var all []int
	for i := range n {
		all = append(all, i)
	}
	return all
}

// fitted is s with the check that fits it.
func fitted(s api.Sector) api.Sector {
	binary.BigEndian.PutUint32(s[28:], 0)
	binary.BigEndian.PutUint32(s[28:], crc32.Checksum(s[:], crc32.MakeTable(crc32.Castagnoli)))
	return s
}

// cast is a frame as the chapter's table has it.
func cast(kind byte, g, number uint64, index uint32, x api.Page) api.Sector {
	b := append([]byte("cibo"), kind, 0, 0, 0)
	b = binary.BigEndian.AppendUint64(b, g)
	b = binary.BigEndian.AppendUint64(b, number)
	b = binary.BigEndian.AppendUint32(b, index)
	b = append(b, 0, 0, 0, 0)
	return fitted(api.Sector(append(b, x[:]...)))
}

// numbers is a page of numbers of four bytes each, and zeros.
func numbers(l ...int) (x api.Page) {
	for k, n := range l {
		binary.BigEndian.PutUint32(x[4*k:], uint32(n))
	}
	return x
}

// The five kinds.
func castHead(g uint64, log, pages int) api.Sector { return cast(1, g, 0, 0, numbers(log, pages)) }

func castList(g, s uint64, pages ...int) api.Sector {
	return cast(2, g, s, uint32(len(pages)), numbers(pages...))
}

func castImage(g, s uint64, k int, x api.Page) api.Sector { return cast(3, g, s, uint32(k), x) }

func castEnd(g, s uint64, n int) api.Sector { return cast(4, g, s, uint32(n), api.Page{}) }

func castHome(g uint64, p int, x api.Page) api.Sector { return cast(5, g, 0, uint32(p), x) }

// castRecord is the frames of a record.
func castRecord(g, s uint64, w []api.Image) []api.Sector {
	var pages []int
	for _, x := range w {
		pages = append(pages, x.Page)
	}
	l := []api.Sector{castList(g, s, pages...)}
	for k, x := range w {
		l = append(l, castImage(g, s, k, x.Data))
	}
	return append(l, castEnd(g, s, len(w)))
}

// laid is what stands on a disk with a log of generation g in which stand these sectors; page p has first + p at home, by a frame of generation p.
func laid(log, pages int, g uint64, first byte, in ...api.Sector) []api.Sector {
	l := make([]api.Sector, 2+log, 2+log+pages)
	l[g%2] = castHead(g, log, pages)
	copy(l[2:], in)
	for p := range pages {
		l = append(l, castHome(uint64(p), p, of(first+byte(p))))
	}
	return l
}

// op is an operation: a Write to a sector, or, of sector -1, a Flush.
type op struct {
	sector int
	what   api.Sector
}

var flush = op{sector: -1}

func (o op) String() string {
	if o == flush {
		return "Flush"
	}
	return fmt.Sprintf("%d: kind %d, %x %x %x, %x..", o.sector, o.what[4], o.what[8:16], o.what[16:24], o.what[24:28], o.what[32:40])
}

// after is what is flushed on a disk on which l was, behind these operations, if the power goes at the last of them, and what of the pending keep picks stays.
func after(l []api.Sector, ops []op, keep func(sector int) bool) []api.Sector {
	flat, pending := slices.Clone(l), map[int]api.Sector{}
	for i, o := range ops {
		switch {
		case o != flush:
			pending[o.sector] = o.what
		case i < len(ops)-1:
			for j, s := range pending {
				flat[j] = s
			}
			pending = map[int]api.Sector{}
		}
	}
	for j, s := range pending {
		if keep(j) {
			flat[j] = s
		}
	}
	return flat
}

// done is what is flushed behind operations of which the last is a Flush, the power staying on.
func done(l []api.Sector, ops []op) []api.Sector {
	return after(l, ops, func(int) bool { return true })
}

// reckon is a log as the chapter's words have it: what is flushed, and its records, one behind the other.
type reckon struct {
	flat       []api.Sector
	log, pages int
	g          uint64
	records    [][]api.Image
}

// frameOf is what stands in a sector, field by field; false, if it is no frame.
func frameOf(s api.Sector) (kind byte, g, number uint64, index int, x []byte, ok bool) {
	ok = string(s[:4]) == "cibo" && s[5] == 0 && s[6] == 0 && s[7] == 0 && fitted(s) == s
	return s[4], binary.BigEndian.Uint64(s[8:]), binary.BigEndian.Uint64(s[16:]), int(binary.BigEndian.Uint32(s[24:])), s[32:], ok
}

func zeros(b []byte) bool { return !slices.ContainsFunc(b, func(c byte) bool { return c != 0 }) }

// headOf is what a head says, in sector i of n; generation 0, if it does not count.
func headOf(s api.Sector, i, n int) (g uint64, log, pages int) {
	kind, g, number, index, x, ok := frameOf(s)
	log, pages = int(binary.BigEndian.Uint32(x)), int(binary.BigEndian.Uint32(x[4:]))
	if !ok || kind != 1 || g == 0 || g%2 != uint64(i) || number != 0 || index != 0 || !zeros(x[8:]) {
		return 0, 0, 0
	}
	if log < 3 || log > 4000 || pages < 1 || 2+log+pages != n {
		return 0, 0, 0
	}
	return g, log, pages
}

// opened is the log that stands in l ahead of a Checkpoint; nil, if no head holds.
func opened(l []api.Sector) *reckon {
	r := &reckon{flat: slices.Clone(l)}
	for i := range 2 {
		if g, log, pages := headOf(l[i], i, len(l)); g > r.g {
			r.g, r.log, r.pages = g, log, pages
		}
	}
	if r.g == 0 {
		return nil
	}
	for {
		w := r.recordAt(2+r.used(), uint64(len(r.records)))
		if w == nil {
			return r
		}
		r.records = append(r.records, w)
	}
}

// recordAt is the images of the record s that stands from sector i on; nil, if none does.
func (r *reckon) recordAt(i int, s uint64) []api.Image {
	frame := func(i int, kind byte) (int, []byte, bool) {
		if i >= 2+r.log {
			return 0, nil, false
		}
		is, g, number, index, x, ok := frameOf(r.flat[i])
		return index, x, ok && is == kind && g == r.g && number == s
	}
	n, x, ok := frame(i, 2)
	if !ok || n < 1 || n > 120 || !zeros(x[4*n:]) {
		return nil
	}
	var w []api.Image
	for k := range n {
		p := int(binary.BigEndian.Uint32(x[4*k:]))
		index, image, ok := frame(i+1+k, 3)
		if !ok || index != k || p >= r.pages || slices.ContainsFunc(w, func(o api.Image) bool { return o.Page == p }) {
			return nil
		}
		w = append(w, api.Image{Page: p, Data: api.Page(image)})
	}
	if index, x, ok := frame(i+1+n, 4); !ok || index != n || !zeros(x) {
		return nil
	}
	return w
}

// used is how many sectors of the log the records have.
func (r *reckon) used() int {
	n := 0
	for _, w := range r.records {
		n += len(w) + 2
	}
	return n
}

// last is what the last record that has page p writes to it.
func (r *reckon) last(p int) (api.Page, bool) {
	for i := len(r.records) - 1; i >= 0; i-- {
		for _, x := range r.records[i] {
			if x.Page == p {
				return x.Data, true
			}
		}
	}
	return api.Page{}, false
}

func (r *reckon) read(p int) (api.Page, api.Errno) {
	if p < 0 || p >= r.pages {
		return api.Page{}, api.ErrArg
	}
	if x, ok := r.last(p); ok {
		return x, api.OK
	}
	kind, _, number, index, x, ok := frameOf(r.flat[2+r.log+p])
	if !ok || kind != 5 || number != 0 || index != p {
		return api.Page{}, api.ErrRot
	}
	return api.Page(x), api.OK
}

// checkpoint is the operations of one; the log is as they leave it.
func (r *reckon) checkpoint() []op {
	if len(r.records) == 0 {
		return nil
	}
	var ops []op
	for p := range r.pages {
		if x, ok := r.last(p); ok {
			ops = append(ops, op{2 + r.log + p, castHome(r.g, p, x)})
		}
	}
	r.g++
	r.records = nil
	ops = append(ops, flush, op{int(r.g % 2), castHead(r.g, r.log, r.pages)}, flush)
	r.flat = done(r.flat, ops)
	return ops
}

// commit is the operations of one of images that may be; the log is as they leave it.
func (r *reckon) commit(w []api.Image) []op {
	var ops []op
	if r.log-r.used() < len(w)+2 {
		ops = r.checkpoint()
	}
	own := []op{}
	frames := castRecord(r.g, uint64(len(r.records)), w)
	for i, s := range frames {
		if i == len(frames)-1 {
			own = append(own, flush)
		}
		own = append(own, op{2 + r.used() + i, s})
	}
	own = append(own, flush)
	r.records = append(r.records, slices.Clone(w))
	r.flat = done(r.flat, own)
	return append(ops, own...)
}

func loaded(t *testing.T, l []api.Sector) *disk.Disk {
	t.Helper()
	d, e := disk.Load(l)
	if e != api.OK {
		t.Fatalf("a disk of %d sectors: %d", len(l), e)
	}
	return d
}

// formatted is what stands on a disk behind a Format.
func formatted(log, pages int) []api.Sector {
	l := laid(log, pages, 1, 0)
	for p := range pages {
		l[2+log+p] = castHome(1, p, api.Page{})
	}
	return l
}

// openedOn is a disk with what stands in l, and its log.
func openedOn(t *testing.T, l []api.Sector) (*disk.Disk, *Log) {
	t.Helper()
	d := loaded(t, l)
	return d, openOf(t, d)
}

func openOf(t *testing.T, d *disk.Disk) *Log {
	t.Helper()
	l, e := Open(d)
	if e != api.OK || l == nil {
		t.Fatalf("P8.2: Open: %d", e)
	}
	return l
}

// answers holds a call's error against what it must be.
func answers(t *testing.T, what string, got, want api.Errno) {
	t.Helper()
	if got != want {
		t.Errorf("%s: %d, not %d", what, got, want)
	}
}

// tells: Pages, Room and Generation are these.
func tells(t *testing.T, l *Log, pages, room int, generation uint64) {
	t.Helper()
	if l.Pages() != pages || l.Room() != room || l.Generation() != generation {
		t.Errorf("P8.6: Pages, Room, Generation: %d, %d, %d, not %d, %d, %d", l.Pages(), l.Room(), l.Generation(), pages, room, generation)
	}
}

// reads: page p answers this, or, with an error, zeros.
func reads(t *testing.T, l *Log, p int, want api.Page, err api.Errno) {
	t.Helper()
	if x, e := l.Read(p); x != want || e != err {
		t.Errorf("P8.3: page %d: %x.., %d, not %x.., %d", p, x[:10], e, want[:10], err)
	}
}

// difference is in what the log, and its disk, are not as is reckoned; empty if in nothing.
func difference(d *disk.Disk, l *Log, r *reckon) string {
	if l.Pages() != r.pages || l.Room() != r.log-r.used() || l.Generation() != r.g {
		return fmt.Sprintf("P8.6: Pages, Room, Generation: %d, %d, %d, not %d, %d, %d", l.Pages(), l.Room(), l.Generation(), r.pages, r.log-r.used(), r.g)
	}
	for p := -1; p <= r.pages; p++ {
		got, e := l.Read(p)
		if want, err := r.read(p); got != want || e != err {
			return fmt.Sprintf("P8.3: page %d: %x.., %d, not %x.., %d", p, got[:10], e, want[:10], err)
		}
	}
	if len(d.Pending()) != 0 {
		return fmt.Sprintf("something is pending: %v", d.Pending())
	}
	for i, s := range d.Sectors() {
		if s != r.flat[i] {
			return fmt.Sprintf("on the disk is %v, not %v", op{i, s}, op{i, r.flat[i]})
		}
	}
	return ""
}

func same(t *testing.T, what string, d *disk.Disk, l *Log, r *reckon) {
	t.Helper()
	if s := difference(d, l, r); s != "" {
		t.Fatalf("%s: %s", what, s)
	}
}

// scene is a disk, and something that is to be done on it.
type scene func(t *testing.T) (d *disk.Disk, act func() api.Errno)

// does: the operations of a scene are these, as is found by letting the power go at each in turn.
func does(t *testing.T, what string, s scene, want []op) {
	t.Helper()
	d, act := s(t)
	if e := act(); e != api.OK {
		t.Fatalf("%s: %d", what, e)
	}
	if len(d.Pending()) != 0 {
		t.Errorf("%s leaves pending %v", what, d.Pending())
	}
	var got []op
	pending := map[int]api.Sector{}
	for {
		o, now, more := nth(t, what, s, len(got)+1, pending)
		if !more {
			break
		}
		got, pending = append(got, o), now
	}
	if !slices.Equal(got, want) {
		t.Errorf("%s does\n%v, not\n%v", what, got, want)
	}
}

// nth is the k-th operation of a scene; pending is what was pending behind the one ahead of it, now what is behind it. False: there are fewer.
func nth(t *testing.T, what string, s scene, k int, pending map[int]api.Sector) (o op, now map[int]api.Sector, more bool) {
	t.Helper()
	d, act := s(t)
	_, flushes := d.Counts()
	answers(t, "Arm", d.Arm(k), api.OK)
	e := act()
	if !d.Dead() {
		answers(t, what, e, api.OK)
		return op{}, nil, false
	}
	answers(t, what+", the power going", e, api.ErrDead)
	numbers, now := d.Pending(), map[int]api.Sector{}
	_, f := d.Counts()
	answers(t, "On", d.On(numbers), api.OK)
	var changed []op
	for _, i := range numbers {
		now[i] = d.Sectors()[i]
		if was, ok := pending[i]; !ok || was != now[i] {
			changed = append(changed, op{i, now[i]})
		}
	}
	// At a Flush nothing is flushed: what was pending is, and is not any more behind the next operation.
	if len(changed) == 0 && f > flushes {
		return flush, nil, true
	}
	if len(changed) != 1 {
		t.Fatalf("%s: at operation %d %d sectors are changed", what, k, len(changed))
	}
	return changed[0], now, true
}
