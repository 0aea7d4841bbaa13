package tree

import (
	"ciborium/api"
	"ciborium/octet"
)

// nextBytes is how many bytes of a value's page say which page has the next part of it.
const nextBytes = api.PageBytes - api.ValueBytes

// held is what a tree has of a key: whether it is there, its value, and the pages that the value takes.
type held struct {
	there bool
	value string
	pages []int
}

// pagesFor is how many pages a value of so many bytes takes.
func pagesFor(bytes int) int { return (bytes + api.ValueBytes - 1) / api.ValueBytes }

// valuePage is a page with a part of a value, and with where the next part is (0: there is none).
func valuePage(part string, next int) (p api.Page) {
	copy(p[:], append(octet.Put32(nil, uint32(next)), part...))
	return p
}

// held is what an entry of a leaf stands for.
func (w *work) held(v entry) (held, api.Errno) {
	h, n := held{there: true}, v.page
	for left := v.size; left > 0; left -= api.ValueBytes {
		p, e := w.read(n)
		if e != api.OK {
			return held{}, e
		}
		r := octet.Read(p[:])
		next, part := int(r.U32()), string(r.Raw(min(left, api.ValueBytes)))
		if isLast := left <= api.ValueBytes; isLast != (next == 0) || p != valuePage(part, next) {
			return held{}, api.ErrTree
		}
		h.pages = append(h.pages, n)
		h.value += part
		n = next
	}
	return h, api.OK
}

// lay puts a value on pages, those of the old one first, and is the entry for it.
func (w *work) lay(key, value string, old []int) entry {
	need := pagesFor(len(value))
	pages := old[:min(need, len(old))]
	w.giveUp(old[len(pages):]...)
	for len(pages) < need {
		pages = append(pages, w.take())
	}
	v := entry{key: key, size: len(value)}
	for i := need - 1; i >= 0; i-- {
		from := i * api.ValueBytes
		part := value[from:min(from+api.ValueBytes, len(value))]
		w.pager.Put(pages[i], valuePage(part, v.page))
		v.page = pages[i]
	}
	return v
}
