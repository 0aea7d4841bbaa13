package wal

import (
	"slices"

	"ciborium/api"
	"ciborium/octet"
)

// besides is how many frames a record has besides its images: the list and the end.
const besides = 2

// nameBytes is how many bytes of a list a page's number has.
const nameBytes = 4

// recordOf is the frames of the record (generation, number) of the images w, which are not too many.
func recordOf(generation, number uint64, w []api.Image) []api.Sector {
	var names api.Page
	for k, x := range w {
		copy(names[nameBytes*k:], octet.Put32(nil, uint32(x.Page)))
	}
	n := len(w)
	frames := []api.Sector{frame(title{listKind, generation, number, n}, names)}
	for k, x := range w {
		frames = append(frames, frame(title{imageKind, generation, number, k}, x.Data))
	}
	return append(frames, frame(title{endKind, generation, number, n}, api.Page{}))
}

// names says whether each of the images is of a page that there is, and no two are of one.
func (y layout) names(w []api.Image) bool {
	at := map[int]int{}
	for k, x := range w {
		if _, twice := at[x.Page]; twice || !y.has(x.Page) {
			return false
		}
		at[x.Page] = k
	}
	return true
}

// replay takes up the records that stand in the log, one behind the other.
func (l *Log) replay() api.Errno {
	for {
		w, e := l.next()
		if e != api.OK || len(w) == 0 {
			return e
		}
		l.take(w)
	}
}

// next is the images of the record behind the last one; none, if there is no record.
func (l *Log) next() ([]api.Image, api.Errno) {
	free := l.log - l.used
	if free == 0 {
		return nil, api.OK
	}
	list, e := l.stretch(1)
	if e != api.OK {
		return nil, e
	}
	n := indexIn(list[0])
	if n == 0 || n > api.MaxImages || int(n) > free-besides {
		return nil, api.OK
	}
	frames, e := l.stretch(int(n) + besides)
	if e != api.OK {
		return nil, e
	}
	w := imagesIn(frames)
	if !l.names(w) || !slices.Equal(frames, recordOf(l.generation, l.records, w)) {
		return nil, api.OK
	}
	return w, api.OK
}

// stretch is the n sectors of the log behind the last record.
func (l *Log) stretch(n int) ([]api.Sector, api.Errno) {
	all := make([]api.Sector, n)
	for i := range all {
		s, e := l.disk.Read(heads + l.used + i)
		if e != api.OK {
			return nil, e
		}
		all[i] = s
	}
	return all, api.OK
}

// imagesIn is the images of which a record's frames speak.
func imagesIn(frames []api.Sector) []api.Image {
	list := pageIn(frames[0])
	names := octet.Read(list[:])
	w := make([]api.Image, len(frames)-besides)
	for k := range w {
		w[k] = api.Image{Page: int(names.U32()), Data: pageIn(frames[1+k])}
	}
	return w
}

// take makes the images the last record of the log.
func (l *Log) take(w []api.Image) {
	for _, x := range w {
		l.written[x.Page] = x.Data
	}
	l.records++
	l.used += len(w) + besides
}
