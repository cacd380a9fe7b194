package repo

import (
	"slices"

	"hypogeum/api"
	"hypogeum/log"
	"hypogeum/mark"
	"hypogeum/save"
)

// mostTries is how often a record is tried again that something stood against.
const mostTries = 20

// work: all that is to be done, in one step: so nobody's work comes between what is read and what is made of it, whatever became of the lock.
func (r *Repo) work(w Work) (Answer, api.Errno) {
	l, e := r.readLog()
	if e != api.OK {
		return Answer{}, e
	}
	if w.What == List {
		return Answer{Snaps: l.Snaps()}, api.OK
	}
	s, e := r.readIndexes(r.target)
	if e != api.OK {
		return Answer{}, e
	}
	var a Answer
	switch w.What {
	case Backup:
		a.Seq, e = r.backup(l, s, w)
	case Restore:
		a.Items, e = restore(l, s, w.Seq)
	case Forget:
		_, e = r.record(l, log.Record{Kind: log.Forgot, Snap: api.Snap{Seq: w.Seq, Time: r.Now()}})
	case Prune:
		e = r.prune(l, s)
	case Check:
		a.Lost, e = lost(l, s)
	}
	if e == api.ErrForm { // an index may not have so many packs, or elder ones
		e = api.ErrBig
	}
	return a, e
}

// backup: a tree is saved and recorded; the snapshot's number.
func (r *Repo) backup(l *log.Log, s save.Saver, w Work) (int, api.Errno) {
	if len(l.Snaps()) >= api.MaxSnaps {
		return 0, api.ErrFull
	}
	there, e := r.List("")
	if e != api.OK {
		return 0, e
	}
	root, e := r.saved(s, w.Items, there)
	if e != api.OK {
		return 0, r.undo(there, e)
	}
	n, e := r.record(l, log.Record{Kind: log.Made, Snap: api.Snap{Time: r.Now(), Note: w.Note, Root: root}})
	if e != api.OK {
		return 0, r.undo(there, e)
	}
	return n, api.OK
}

// saved: the name of a tree that is committed, in a store that had these objects.
func (r *Repo) saved(s save.Saver, l []api.Item, there []string) (api.Id, api.Errno) {
	root, e := committed(s, l)
	if e != api.ErrForm {
		return root, e
	}
	// More packs than an index may have: these go, and there are fewer of them if they are as great as may be.
	if e := r.sweep(there...); e != api.OK {
		return api.Id{}, e
	}
	if s, e = r.readIndexes(mostTarget); e != api.OK {
		return api.Id{}, e
	}
	return committed(s, l)
}

// committed: a tree's name, when it is found by whoever opens the vault.
func committed(s save.Saver, l []api.Item) (api.Id, api.Errno) {
	root, e := s.Save(l...)
	if e != api.OK {
		return api.Id{}, e
	}
	if e := s.Commit(); e != api.OK {
		return api.Id{}, e
	}
	return root, api.OK
}

// record: a record more; its number. Where another client's came first, or one lies there that doesn't count, it is tried again.
func (r *Repo) record(l *log.Log, x log.Record) (int, api.Errno) {
	n, e := l.Add(x)
	for range mostTries {
		if e != api.ErrLocked {
			break
		}
		if l, e = r.readLog(); e != api.OK {
			return 0, e
		}
		if e := l.Mend(); e != api.OK {
			return 0, e
		}
		n, e = l.Add(x)
	}
	return n, e
}

// restore: the tree of a snapshot.
func restore(l *log.Log, s save.Saver, seq int) ([]api.Item, api.Errno) {
	snaps := l.Snaps()
	i := slices.IndexFunc(snaps, func(x api.Snap) bool { return x.Seq == seq })
	if i < 0 {
		return nil, api.ErrMiss
	}
	return s.Load(snaps[i].Root)
}

// roots: the names of all snapshots' trees.
func roots(l *log.Log) []api.Id {
	var ids []api.Id
	for _, x := range l.Snaps() {
		ids = append(ids, x.Root)
	}
	return ids
}

// lost: what snapshots need, and nobody tells.
func lost(l *log.Log, s save.Saver) ([]api.Id, api.Errno) {
	need, e := mark.Reach(s, roots(l)...)
	if e != api.OK {
		return nil, e
	}
	return mark.Lost(s, need)
}
