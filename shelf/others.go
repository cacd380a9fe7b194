package shelf

import (
	"maps"

	"hypogeum/api"
)

// Image is all that a store has, at one time.
type Image struct {
	objects map[string]object
}

// Forge, Steal: what somebody else does: an object has other bytes; it is gone.
func (s *Shelf) Forge(name string, b []byte) api.Errno {
	switch {
	case s == nil:
		return api.ErrArg
	case !IsName(name):
		return api.ErrName
	case len(b) > api.MaxPack, !s.has(name) && len(s.objects) >= api.MaxStore:
		return api.ErrBig
	}
	s.set(name, object{bytes: string(b), synced: true})
	return api.OK
}

func (s *Shelf) Steal(name string) api.Errno {
	switch {
	case s == nil:
		return api.ErrArg
	case !s.has(name):
		return api.ErrMiss
	}
	delete(s.objects, name)
	return api.OK
}

// Photo, Restore: all that there is; it is so again.
func (s *Shelf) Photo() *Image {
	if s == nil {
		return nil
	}
	return &Image{objects: maps.Clone(s.objects)}
}

func (s *Shelf) Restore(i *Image) api.Errno {
	if s == nil || i == nil {
		return api.ErrArg
	}
	s.objects = maps.Clone(i.objects)
	return api.OK
}
