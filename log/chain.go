package log

import (
	"slices"

	"hypogeum/api"
	"hypogeum/sum"
	"hypogeum/vault"
)

// count: how many records were read or added.
func (l *Log) count() int {
	return len(l.records)
}

// read: the next record of the store.
func (l *Log) read() api.Errno {
	n := l.count() + 1
	b, e := l.store.Get(name(n))
	if e == api.ErrMiss {
		return api.ErrCorrupt
	}
	if e != api.OK {
		return e
	}
	g, e := l.Open(recordKind, name(n), b)
	if e != api.OK {
		return api.ErrCorrupt
	}
	r, chain, ok := opened(g)
	if !ok || chain != l.chain || !l.fits(n, r) {
		return api.ErrCorrupt
	}
	l.goOn(r, b)
	return api.OK
}

// fits: can it be the record of that number?
func (l *Log) fits(n int, r Record) bool {
	if r.Kind == Made {
		return r.inForm() && r.Seq == n
	}
	return r.inForm() && l.has(r.Seq)
}

// has: is there a snapshot of that number that wasn't forgotten?
func (l *Log) has(seq int) bool {
	if seq < 1 || seq > l.count() || l.records[seq-1].Kind != Made {
		return false
	}
	return !slices.ContainsFunc(l.records[seq:], func(r Record) bool { return r.Kind == Forgot && r.Seq == seq })
}

// takes: may it be added?
func (l *Log) takes(r Record) api.Errno {
	switch {
	case !r.inForm():
		return api.ErrForm
	case r.Kind == Forgot && !l.has(r.Seq):
		return api.ErrMiss
	case r.Kind == Made && len(l.Snaps()) >= api.MaxSnaps, l.count() >= mostRecords:
		return api.ErrFull
	}
	return api.OK
}

// isNext: has nobody else used that number up?
func (l *Log) isNext(n int) api.Errno {
	count, e := l.cell.Read()
	if e != api.OK {
		return e
	}
	if count != n-1 {
		return api.ErrLocked
	}
	// A look ahead of publishing: who is refused so changes nothing, and hears of it also where there is no room.
	_, e = l.store.Get(name(n))
	switch e {
	case api.OK:
		return api.ErrLocked
	case api.ErrMiss:
		return api.OK
	}
	return e
}

// publish: the record is an object; its bytes.
func (l *Log) publish(n int, r Record) ([]byte, api.Errno) {
	g, e := r.bytes(l.chain)
	if e != api.OK {
		return nil, e
	}
	b, e := l.Write(recordKind, name(n), g)
	if e != api.OK {
		return nil, e
	}
	if e := vault.Publish(l.store, name(n), b); e != api.OK {
		return nil, e
	}
	return b, api.OK
}

// goOn: the record counts; the next one names these bytes of its object.
func (l *Log) goOn(r Record, b []byte) {
	l.records = append(l.records, r)
	l.chain = sum.Of(b)
}
