package tree

import (
	"slices"
	"strings"

	"ciborium/api"
)

// List tells keys, in order.
func (t *Tree) List(prefix, after string, most int) ([]string, api.Errno) {
	switch {
	case t == nil:
		return nil, api.ErrNil
	case most < 0:
		return nil, api.ErrArg
	}
	var keys []string
	wanted := func(s span) bool { return len(keys) < most && s.mayHave(prefix, after) }
	e := t.walk(wanted, func(_ *work, x *node) api.Errno {
		for _, v := range x.values() {
			if len(keys) < most && v.key > after && strings.HasPrefix(v.key, prefix) {
				keys = append(keys, v.key)
			}
		}
		return api.OK
	})
	if e != api.OK {
		return nil, e
	}
	return keys, api.OK
}

// Count is how many keys there are.
func (t *Tree) Count() (int, api.Errno) {
	n := 0
	e := t.walk(all, func(_ *work, x *node) api.Errno {
		n += len(x.values())
		return api.OK
	})
	if e != api.OK {
		return 0, e
	}
	return n, api.OK
}

// Pages tells the pages that the tree has.
func (t *Tree) Pages() ([]int, api.Errno) {
	var pages []int
	e := t.walk(all, func(w *work, x *node) api.Errno {
		pages = append(pages, x.page)
		for _, v := range x.values() {
			h, e := w.held(v)
			if e != api.OK {
				return e
			}
			pages = append(pages, h.pages...)
		}
		return api.OK
	})
	slices.Sort(pages)
	switch {
	case e != api.OK:
		return nil, e
	case len(slices.Compact(slices.Clone(pages))) < len(pages):
		return nil, api.ErrTree // two values with one page
	}
	return pages, api.OK
}

// all is every span.
func all(span) bool { return true }

// walk hands all nodes of which what they speak of is wanted to a closure, a node ahead of those below it, in the order of their keys.
func (t *Tree) walk(wanted func(span) bool, visit func(*work, *node) api.Errno) api.Errno {
	w, e := t.begin()
	if e != api.OK || w.top == nil {
		return e
	}
	return w.walk(w.top, wanted, visit)
}

// walk is the same from one node on.
func (w *work) walk(x *node, wanted func(span) bool, visit func(*work, *node) api.Errno) api.Errno {
	if e := visit(w, x); e != api.OK {
		return e
	}
	for i := range x.children() {
		if !wanted(x.part(i)) {
			continue
		}
		y, e := w.child(x, i)
		if e != api.OK {
			return e
		}
		if e := w.walk(y, wanted, visit); e != api.OK {
			return e
		}
	}
	return api.OK
}

// mayHave says whether in a span there may be keys that begin with prefix and stand behind after.
func (s span) mayHave(prefix, after string) bool {
	if s.low > prefix && !strings.HasPrefix(s.low, prefix) {
		return false
	}
	return s.high == "" || s.high > max(prefix, after)
}
