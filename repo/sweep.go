package repo

import "hypogeum/api"

// Where objects lie that are swept.
const (
	indexPlace = "x/"
	packPlace  = "p/"
	draftPlace = "t/"
)

// undo: of indexes, packs and drafts just those stay that there were ahead of work that came to nothing; the error to tell.
func (r *Repo) undo(there []string, e api.Errno) api.Errno {
	if f := r.sweep(there...); f != api.OK {
		return f
	}
	return e
}

// sweep: indexes, packs and drafts go, but for those that are kept.
func (r *Repo) sweep(keep ...string) api.Errno {
	stays := map[string]struct{}{}
	for _, name := range keep {
		stays[name] = struct{}{}
	}
	// Indexes ahead of packs: one that is left, as the power goes, has its packs still.
	for _, place := range [...]string{indexPlace, packPlace, draftPlace} {
		names, e := r.List(place)
		if e != api.OK {
			return e
		}
		for _, name := range names {
			if _, ok := stays[name]; ok {
				continue
			}
			if e := r.Delete(name); e != api.OK {
				return e
			}
		}
	}
	return api.OK
}
