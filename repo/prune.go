package repo

import (
	"hypogeum/api"
	"hypogeum/log"
	"hypogeum/mark"
	"hypogeum/prune"
	"hypogeum/save"
	"hypogeum/vault"
)

// prune: what no snapshot needs goes, and what doesn't count.
func (r *Repo) prune(l *log.Log, s save.Saver) api.Errno {
	need, e := mark.Reach(s, roots(l)...)
	if e != api.OK {
		return e
	}
	// Ahead of deleting anything: a pack that somebody took away is no reason to give up other copies of what it had.
	if e := lookAtPacks(s, need); e != api.OK {
		return e
	}
	e = r.run(l, s, need)
	if e == api.ErrFull {
		e = r.runInOrder(l, s, need)
	}
	if e != api.OK {
		return e
	}
	return l.Mend()
}

// run: just what is needed is there then; or, beside an error, what was there ahead.
func (r *Repo) run(l *log.Log, s save.Saver, need *mark.Set) api.Errno {
	there, e := r.List("")
	if e != api.OK {
		return e
	}
	_, e = prune.Run(s, roots(l)...)
	if e == api.ErrForm {
		e = putAnew(s, need)
	}
	if e != api.OK {
		return r.undo(there, e)
	}
	return api.OK
}

// runInOrder: as run, when what was broken off is gone: it may have taken the room.
func (r *Repo) runInOrder(l *log.Log, s save.Saver, need *mark.Set) api.Errno {
	if e := l.Mend(); e != api.OK {
		return e
	}
	if e := r.sweep(counting(s)...); e != api.OK {
		return e
	}
	s, e := r.readIndexes(r.target)
	if e != api.OK {
		return e
	}
	return r.run(l, s, need)
}

// lookAtPacks: is each pack from which something is needed as it was?
func lookAtPacks(s save.Saver, need *mark.Set) api.Errno {
	seen := map[string]struct{}{}
	for _, id := range need.Ids() {
		p, _ := s.Find(id)
		if _, ok := seen[p.Pack]; ok {
			continue
		}
		seen[p.Pack] = struct{}{}
		// A blob is told only from a pack of which all is as it was: so one of each will do.
		_, e := s.Get(need.Kind(id), id)
		if e == api.ErrMiss {
			e = api.ErrCorrupt
		}
		if e != api.OK {
			return e
		}
	}
	return api.OK
}

// counting: the names of the indexes that count, and of their packs.
func counting(s save.Saver) []string {
	names := s.Files()
	for _, p := range s.Packs() {
		names = append(names, p.Name)
	}
	return names
}

// putAnew: all that is needed is put into packs that are as great as may be: there are more of them than an index may have.
func putAnew(s save.Saver, need *mark.Set) api.Errno {
	var blobs []vault.Lump
	for _, id := range need.Ids() {
		b, e := s.Get(need.Kind(id), id)
		if e != api.OK {
			return e
		}
		blobs = append(blobs, vault.Lump{Kind: need.Kind(id), Bytes: b})
	}
	packs, e := s.Anew(blobs...)
	if e != api.OK {
		return e
	}
	return s.Replace(packs)
}
