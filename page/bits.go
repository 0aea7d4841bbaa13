package page

import (
	"math/bits"

	"ciborium/api"
)

const (
	wordBits    = 64
	wordBytes   = wordBits / 8
	wordsInPage = api.PageBits / wordBits
	// mostBitPages are enough for all pages that a disk may have.
	mostBitPages = (api.MaxSectors + api.PageBits - 1) / api.PageBits
)

// taken has a bit of each page, from the lowest of its first word on: one of a page that is taken.
type taken [mostBitPages * wordsInPage]uint64

// has says whether page n is taken.
func (t *taken) has(n int) bool { return t[n/wordBits]>>(n%wordBits)&1 == 1 }

// add makes page n a taken one.
func (t *taken) add(n int) { t[n/wordBits] |= 1 << (n % wordBits) }

// drop makes page n a free one.
func (t *taken) drop(n int) { t[n/wordBits] &^= 1 << (n % wordBits) }

// count is how many pages are taken.
func (t *taken) count() int {
	n := 0
	for _, w := range t {
		n += bits.OnesCount64(w)
	}
	return n
}

// firstFree is the lowest page that is not taken, be there such a page or not.
func (t *taken) firstFree() int {
	n := len(t) * wordBits
search:
	for i, w := range t {
		if ^w == 0 {
			continue
		}
		for j := range wordBits {
			if w>>j&1 == 0 {
				n = i*wordBits + j
				break search
			}
		}
	}
	return n
}

// bitPage is the page of bits k, from 0 on.
func (t *taken) bitPage(k int) (x api.Page) {
	for j := range x {
		x[j] = byte(t[k*wordsInPage+j/wordBytes] >> (j % wordBytes * 8))
	}
	return x
}

// addAll takes the pages that the page of bits k has.
func (t *taken) addAll(k int, x api.Page) {
	for j, b := range x {
		t[k*wordsInPage+j/wordBytes] |= uint64(b) << (j % wordBytes * 8)
	}
}
