package shelf

import (
	"strings"

	"hypogeum/api"
)

// Put, Sync, Rename, Delete: the changes.
func (s *Shelf) Put(name string, parts ...[]byte) api.Errno {
	if e := s.ready(); e != api.OK {
		return e
	}
	if e := s.takes(name, size(parts)); e != api.OK {
		return e
	}
	if e := s.spend(); e != api.OK {
		return e
	}
	s.set(name, object{bytes: joined(parts)})
	return api.OK
}

func (s *Shelf) Sync(names ...string) api.Errno {
	if e := s.ready(); e != api.OK {
		return e
	}
	// Ahead of a look at the names: it needs power also where one isn't there.
	if e := s.spend(); e != api.OK {
		return e
	}
	for _, name := range names {
		o, ok := s.objects[name]
		if !ok {
			return api.ErrMiss
		}
		o.synced = true
		s.set(name, o)
	}
	return api.OK
}

func (s *Shelf) Rename(from, to string) api.Errno {
	if e := s.ready(); e != api.OK {
		return e
	}
	switch {
	case !IsName(to):
		return api.ErrName
	case !s.has(from):
		return api.ErrMiss
	case s.has(to) && to != from:
		return api.ErrThere
	}
	if e := s.spend(); e != api.OK {
		return e
	}
	o := s.objects[from]
	delete(s.objects, from)
	s.set(to, o)
	return api.OK
}

func (s *Shelf) Delete(name string) api.Errno {
	if e := s.ready(); e != api.OK {
		return e
	}
	if !s.has(name) {
		return api.ErrMiss
	}
	if e := s.spend(); e != api.OK {
		return e
	}
	delete(s.objects, name)
	return api.OK
}

// Nudge: a change that changes nothing.
func (s *Shelf) Nudge() api.Errno {
	if e := s.ready(); e != api.OK {
		return e
	}
	return s.spend()
}

// takes: may an object of so many bytes be put by that name?
func (s *Shelf) takes(name string, size int) api.Errno {
	switch {
	case !IsName(name):
		return api.ErrName
	case s.has(name):
		return api.ErrThere
	case size > api.MaxPack:
		return api.ErrBig
	case s.Used()+size > s.room, len(s.objects) >= api.MaxStore:
		return api.ErrFull
	}
	return api.OK
}

func size(parts [][]byte) int {
	n := 0
	for _, b := range parts {
		n += len(b)
	}
	return n
}

func joined(parts [][]byte) string {
	var t strings.Builder
	for _, b := range parts {
		t.Write(b)
	}
	return t.String()
}
