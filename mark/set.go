package mark

import (
	"bytes"
	"maps"
	"slices"

	"hypogeum/api"
)

// Set is names of blobs, with their kinds.
type Set struct {
	kinds map[api.Id]int
}

// Of: a set of names, as of a kind.
func Of(kind int, ids ...api.Id) *Set {
	s := new(Set)
	s.add(kind, ids...)
	return s
}

// Join: what is in one of all.
func Join(l ...*Set) *Set {
	all := new(Set)
	for _, s := range l {
		if s == nil {
			continue
		}
		for id, kind := range s.kinds {
			all.add(kind, id)
		}
	}
	return all
}

// Has: is a blob in it? Kind: as of which kind?
func (s *Set) Has(id api.Id) bool {
	if s == nil {
		return false
	}
	_, ok := s.kinds[id]
	return ok
}

func (s *Set) Kind(id api.Id) int {
	if s == nil {
		return 0
	}
	return s.kinds[id]
}

// Ids: all, rising; Count: how many.
func (s *Set) Ids() []api.Id {
	if s == nil {
		return nil
	}
	return slices.SortedFunc(maps.Keys(s.kinds), func(a, b api.Id) int { return bytes.Compare(a[:], b[:]) })
}

func (s *Set) Count() int {
	if s == nil {
		return 0
	}
	return len(s.kinds)
}

// add: names that aren't there yet, as of that kind.
func (s *Set) add(kind int, ids ...api.Id) {
	for _, id := range ids {
		if !s.Has(id) {
			s.set(kind, id)
		}
	}
}

// set: the name is there, as of that kind.
func (s *Set) set(kind int, id api.Id) {
	if s.kinds == nil {
		s.kinds = map[api.Id]int{}
	}
	s.kinds[id] = kind
}
