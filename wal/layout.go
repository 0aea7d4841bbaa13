package wal

import (
	"ciborium/api"
	"ciborium/octet"
)

// heads is how many sectors there are ahead of the log.
const heads = 2

// leastLog is how many sectors a log has at least: those of a record of one image.
const leastLog = 3

// layout is how many sectors of log a disk has, and how many pages.
type layout struct {
	log, pages int
}

// layoutOf is the layout of a disk of that size with so many sectors of log; false, if there may be none.
func layoutOf(size, log int) (layout, bool) {
	if log < leastLog || log > api.MaxLog || size <= heads+log {
		return layout{}, false
	}
	return layout{log, size - heads - log}, true
}

// home is the sector in which page p stands.
func (y layout) home(p int) int { return heads + y.log + p }

// has says whether there is a page p.
func (y layout) has(p int) bool { return p >= 0 && p < y.pages }

// most is how many images may be written at once.
func (y layout) most() int { return min(api.MaxImages, y.log-besides) }

// head is the head of a generation.
func (y layout) head(generation uint64) api.Sector {
	var x api.Page
	copy(x[:], octet.Put32(octet.Put32(nil, uint32(y.log)), uint32(y.pages)))
	return frame(title{headKind, generation, 0, 0}, x)
}

// headPlace is the sector of the head of a generation.
func headPlace(generation uint64) int { return int(generation % heads) }

// counting is what the head s says, which stands in sector i of a disk of that size: the layout and the generation; false, if it does not count there.
func counting(s api.Sector, i, size int) (layout, uint64, bool) {
	x, generation := pageIn(s), generationIn(s)
	y, ok := layoutOf(size, int(octet.Read(x[:]).U32()))
	if !ok || generation == 0 || headPlace(generation) != i || s != y.head(generation) {
		return layout{}, 0, false
	}
	return y, generation, true
}
