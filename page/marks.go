package page

import (
	"slices"

	"ciborium/api"
	"ciborium/octet"
)

// name is what the root page begins with.
const name = "page"

// rootBytes is how many bytes of the root page a root has.
const rootBytes = 4

// marks is what stands ahead of the data pages: which pages are taken, and the roots.
type marks struct {
	taken taken
	roots [api.Roots]int
}

// unused is the marks of which no data page is taken.
func (y layout) unused() marks {
	var m marks
	for n := range y.first() {
		m.taken.add(n)
	}
	return m
}

// lay is the root page and the pages of bits.
func (y layout) lay(m marks) []api.Page {
	all := []api.Page{rootPage(m.roots)}
	for k := range y.bitPages() {
		all = append(all, m.taken.bitPage(k))
	}
	return all
}

// marksIn is the marks that stand in the root page and the pages of bits; false, if they are not such pages.
func (y layout) marksIn(all []api.Page) (marks, bool) {
	m := marks{roots: rootsIn(all[0])}
	for k, x := range all[1:] {
		m.taken.addAll(k, x)
	}
	// Whatever stands where nothing is to be told (the name, the zeros) is not there in what is laid anew.
	if !y.fits(m) || !slices.Equal(all, y.lay(m)) {
		return marks{}, false
	}
	return m, true
}

// fits says whether marks are such as there may be: the pages ahead of the data pages are taken, none that there is not is, and each root that is not 0 is a data page that is.
func (y layout) fits(m marks) bool {
	for n := range y.first() {
		if !m.taken.has(n) {
			return false
		}
	}
	for n := y.pages; n < y.bitPages()*api.PageBits; n++ {
		if m.taken.has(n) {
			return false
		}
	}
	for _, n := range m.roots {
		if n != 0 && !(y.isData(n) && m.taken.has(n)) {
			return false
		}
	}
	return true
}

// rootPage is the page 0 that has these roots.
func rootPage(roots [api.Roots]int) (x api.Page) {
	b := []byte(name)
	for _, n := range roots {
		b = octet.Put32(b, uint32(n))
	}
	copy(x[:], b)
	return x
}

// rootsIn is the roots that stand in the page 0.
func rootsIn(x api.Page) (roots [api.Roots]int) {
	r := octet.Read(x[len(name) : len(name)+rootBytes*api.Roots])
	for i := range roots {
		roots[i] = int(r.U32())
	}
	return roots
}
