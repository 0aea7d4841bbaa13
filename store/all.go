package store

import (
	"iter"
	"math"

	"ciborium/api"
)

// pair is a key and its value.
type pair struct{ key, value string }

// All goes over keys and values.
func (s *Store) All(prefix string) iter.Seq2[string, string] {
	all := s.pairs(prefix)
	return func(yield func(string, string) bool) {
		for _, p := range all {
			if !yield(p.key, p.value) {
				return
			}
		}
	}
}

// pairs are the keys that begin with prefix, rising, with their values; none, if one of them can't be read.
func (s *Store) pairs(prefix string) []pair {
	keys, e := s.List(prefix, "", math.MaxInt)
	if e != api.OK {
		return nil
	}
	var all []pair
	for _, k := range keys {
		value, _, e := s.Get(k)
		if e != api.OK {
			return nil
		}
		all = append(all, pair{k, value})
	}
	return all
}
