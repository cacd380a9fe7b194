package vault

import (
	"bytes"

	"hypogeum/api"
	"hypogeum/shelf"
	"hypogeum/sum"
)

// Where objects lie.
const (
	packPlace  = "p/"
	indexPlace = "x/"
	draftPlace = "t/"
	twinPlace  = "w/"
)

// mostDigits is how many digits of its sum a name has.
const mostDigits = 40

// digits: what bytes are named by.
func digits(b []byte) string {
	return sum.Text(sum.Of(b))[:mostDigits]
}

// Publish: an object, wholly or not at all.
func Publish(s *shelf.Shelf, name string, b []byte) api.Errno {
	draft := draftPlace + digits([]byte(name))
	if e := s.Delete(draft); e != api.OK && e != api.ErrMiss {
		return e
	}
	e := lay(s, draft, name, b)
	if e == api.OK {
		return api.OK
	}
	// That there may be no draft any longer is no matter; that the power goes by this is.
	if s.Delete(draft) == api.ErrDown {
		return api.ErrDown
	}
	return e
}

// lay: it is there by its name only when it is whole, and lasts.
func lay(s *shelf.Shelf, draft, name string, b []byte) api.Errno {
	if e := s.Put(draft, b); e != api.OK {
		return e
	}
	if e := s.Sync(draft); e != api.OK {
		return e
	}
	return s.Rename(draft, name)
}

// publish: a pack or an index, whose name is of its bytes; true: it wasn't there yet.
func publish(s *shelf.Shelf, name string, b []byte) (bool, api.Errno) {
	e := Publish(s, name, b)
	if e != api.ErrThere {
		return e == api.OK, e
	}
	there, e := s.Get(name)
	if e != api.OK {
		return false, e
	}
	if bytes.Equal(there, b) {
		return false, api.OK
	}
	// Both are kept, for whoever wants to see two rows of bytes with one name. Whether there is room for that is no matter.
	if Publish(s, twinPlace+name[len(packPlace):], b) == api.ErrDown {
		return false, api.ErrDown
	}
	return false, api.ErrThere
}

// twins: two objects of one name, the first that there are.
func twins(s *shelf.Shelf) (a, b []byte, e api.Errno) {
	names, e := s.List(twinPlace)
	if e != api.OK {
		return nil, nil, e
	}
	if len(names) == 0 {
		return nil, nil, api.ErrMiss
	}
	rest := names[0][len(twinPlace):]
	if a, e = s.Get(names[0]); e != api.OK {
		return nil, nil, e
	}
	b, e = s.Get(packPlace + rest)
	if e == api.ErrMiss {
		b, e = s.Get(indexPlace + rest)
	}
	return a, b, e
}

// sweep: all objects of some places go, but for those that are kept, place by place.
func sweep(s *shelf.Shelf, keep map[string]struct{}, places ...string) api.Errno {
	for _, place := range places {
		names, e := s.List(place)
		if e != api.OK {
			return e
		}
		for _, name := range names {
			if _, ok := keep[name]; ok {
				continue
			}
			if e := s.Delete(name); e != api.OK {
				return e
			}
		}
	}
	return api.OK
}
