package lock

import "hypogeum/api"

// next: the step whose turn it is.
func (l *Locks) next() api.Errno {
	switch l.step {
	case firstLook:
		_, e := l.look()
		return e
	case drafting:
		return l.putDraft()
	case renaming:
		return l.publish()
	}
	return l.settle()
}

// look: is there a lock that the wish meets? If there is none: the stale ones of others.
func (l *Locks) look() ([]lock, api.Errno) {
	all, e := l.read()
	if e != api.OK {
		return nil, e
	}
	now := l.clock.Now()
	var stale []lock
	for _, k := range all {
		switch {
		case k.client == l.client:
		case !k.holds(now):
			stale = append(stale, k)
		case k.meets(l.wish):
			return nil, api.ErrLocked
		}
	}
	return stale, api.OK
}

// read: all locks of all clients.
func (l *Locks) read() ([]lock, api.Errno) {
	names, e := l.store.List(lockPlace)
	if e != api.OK {
		return nil, e
	}
	var all []lock
	for _, name := range names {
		b, e := l.store.Get(name)
		if e != api.OK {
			return nil, e
		}
		k, ok := l.lockOf(name, b)
		if !ok {
			return nil, api.ErrCorrupt
		}
		all = append(all, k)
	}
	return all, api.OK
}

// lockOf: the lock of that name; false: these bytes aren't one's.
func (l *Locks) lockOf(name string, sealed []byte) (lock, bool) {
	k, ok := named(name)
	if !ok {
		return lock{}, false
	}
	b, e := l.Open(lockKind, name, sealed)
	if e != api.OK {
		return lock{}, false
	}
	return k.opened(b)
}

// putDraft: the wish is put as a draft, of this time.
func (l *Locks) putDraft() api.Errno {
	l.wish.count, l.wish.time = l.made, l.clock.Now()
	draft := l.wish.draft()
	if e := l.remove(draft); e != api.OK {
		return e
	}
	g, e := l.wish.bytes()
	if e != api.OK {
		return e
	}
	b, e := l.Write(lockKind, l.wish.name(), g)
	if e != api.OK {
		return e
	}
	if e := l.store.Put(draft, b); e != api.OK {
		return e
	}
	l.put = draft
	return l.store.Sync(draft)
}

// publish: the draft has the lock's name from now on.
func (l *Locks) publish() api.Errno {
	name := l.wish.name()
	// An elder life of this client, whose count began at 0 too, may have left one.
	if e := l.remove(name); e != api.OK {
		return e
	}
	if e := l.store.Rename(l.put, name); e != api.OK {
		return e
	}
	l.put = name
	l.made++
	return api.OK
}

// settle: it looks again, as others may have come in the meantime; whoever is alone puts the place in order.
func (l *Locks) settle() api.Errno {
	stale, e := l.look()
	if e != api.OK || !l.wish.alone {
		return e
	}
	for _, k := range stale {
		if e := l.remove(k.name()); e != api.OK {
			return e
		}
	}
	return api.OK
}

// stands: does the client's own lock hold still, and is it there?
func (l *Locks) stands() api.Errno {
	if !l.own.holds(l.clock.Now()) {
		return api.ErrStale
	}
	_, e := l.store.Get(l.own.name())
	if e == api.ErrMiss {
		return api.ErrStale
	}
	return e
}

// replace: the wish is made, then its own lock goes.
func (l *Locks) replace() api.Errno {
	if e := l.putDraft(); e != api.OK {
		return e
	}
	if e := l.publish(); e != api.OK {
		return e
	}
	return l.remove(l.own.name())
}

// take: the wish is the client's own.
func (l *Locks) take() {
	l.own, l.has, l.put = l.wish, true, ""
}

// undo: what was put of the wish goes; the error to tell.
func (l *Locks) undo(e api.Errno) api.Errno {
	if l.put == "" {
		return e
	}
	left := l.put
	l.put = ""
	if f := l.remove(left); f != api.OK {
		return f
	}
	return e
}

// remove: an object, if it is there.
func (l *Locks) remove(name string) api.Errno {
	if e := l.store.Delete(name); e != api.ErrMiss {
		return e
	}
	return api.OK
}
