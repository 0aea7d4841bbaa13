package page

import "ciborium/api"

// layout is which of a log's pages are for what: the root page, the pages of bits, and from first on the data pages.
type layout struct {
	pages int
}

// layoutOf is the layout of so many pages; false, if there is none left for data.
func layoutOf(pages int) (layout, bool) {
	y := layout{pages}
	return y, pages > y.first()
}

// bitPages is how many pages of bits there are.
func (y layout) bitPages() int { return (y.pages + api.PageBits - 1) / api.PageBits }

// first is the first data page.
func (y layout) first() int { return 1 + y.bitPages() }

// has says whether there is a page n.
func (y layout) has(n int) bool { return n >= 0 && n < y.pages }

// isData says whether page n is a data page.
func (y layout) isData(n int) bool { return n >= y.first() && n < y.pages }
