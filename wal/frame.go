package wal

import (
	"ciborium/api"
	"ciborium/octet"
)

// The kinds of frames.
const (
	headKind  byte = 1
	listKind  byte = 2
	imageKind byte = 3
	endKind   byte = 4
	homeKind  byte = 5
)

// mark is what each frame begins with.
const mark = "cibo"

// Where a frame has the other things that it says of its page.
const (
	kindPlace       = 4
	generationPlace = 8
	numberPlace     = 16
	indexPlace      = 24
	checkPlace      = 28
)

// title is what a frame says of its page.
type title struct {
	kind               byte
	generation, number uint64
	index              int
}

// frame is the frame of that title with the page x. What was read is judged by it, too: it is held against the frame that it should be, as a whole.
func frame(t title, x api.Page) api.Sector {
	var s api.Sector
	copy(s[:], mark)
	s[kindPlace] = t.kind
	copy(s[generationPlace:], octet.Put64(nil, t.generation))
	copy(s[numberPlace:], octet.Put64(nil, t.number))
	copy(s[indexPlace:], octet.Put32(nil, uint32(t.index)))
	copy(s[api.HeadBytes:], x[:])
	copy(s[checkPlace:], octet.Put32(nil, check(s)))
	return s
}

// homeFrame is what stands in the home of page p.
func homeFrame(generation uint64, p int, x api.Page) api.Sector {
	return frame(title{homeKind, generation, 0, p}, x)
}

// pageIn is the page of a frame.
func pageIn(s api.Sector) api.Page {
	var x api.Page
	copy(x[:], s[api.HeadBytes:])
	return x
}

// generationIn is the generation of a frame.
func generationIn(s api.Sector) uint64 {
	return octet.Read(s[generationPlace:numberPlace]).U64()
}

// indexIn is the index of a frame.
func indexIn(s api.Sector) uint32 {
	return octet.Read(s[indexPlace:checkPlace]).U32()
}
