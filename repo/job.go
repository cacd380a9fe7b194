package repo

import (
	"hypogeum/api"
	"hypogeum/tree"
)

// mostNote is how many bytes a note has at most.
const mostNote = 1000

// job is work that is under way.
type job struct {
	Work
	fault  api.Errno // what is wrong with what was handed in
	turn   int       // what its next step does
	answer Answer
}

// What steps do.
const (
	asking  = iota // for the lock: the first of its steps
	taking         // it: the others
	working        // all that is to be done
	ending         // with Release
)

// newJob: with a copy of what it needs of w.
func newJob(w Work) *job {
	j := &job{Work: Work{What: w.What, Seq: w.Seq}}
	switch w.What {
	case List:
		j.turn = working
	case Backup:
		// Looked at ahead of being copied: of items that a directory may not have a copy may be endless.
		if j.fault = look(w); j.fault == api.OK {
			j.Note, j.Items = w.Note, tree.Sort(w.Items...)
		}
	}
	return j
}

// look: may there be a snapshot of that?
func look(w Work) api.Errno {
	if e := tree.Check(w.Items...); e != api.OK {
		return e
	}
	if len(w.Note) > mostNote {
		return api.ErrForm
	}
	return api.OK
}

// next: the step whose turn it is; was it the last one, and with which error?
func (r *Repo) next() (bool, api.Errno) {
	j := r.job
	switch j.turn {
	case asking:
		if e := r.ask(); e != api.OK {
			return true, e
		}
		j.turn = taking
		fallthrough
	case taking:
		return r.take()
	case working:
		a, e := r.work(j.Work)
		if j.What == List {
			j.answer = a
			return true, e
		}
		if e != api.OK {
			return true, r.release(e)
		}
		j.answer, j.turn = a, ending
		return false, api.OK
	}
	return true, r.release(api.OK)
}

// release: the lock goes, whatever else there was; the error to tell.
func (r *Repo) release(e api.Errno) api.Errno {
	if f := r.locks.Release(); f != api.OK {
		return f // the power went by this, or ahead of it
	}
	return e
}

// ask: a lock is asked for, if there may be such work.
func (r *Repo) ask() api.Errno {
	if r.job.fault != api.OK {
		return r.job.fault
	}
	// One that was left, as the power was gone when other work ended.
	if has, _ := r.Held(); has {
		if e := r.locks.Release(); e != api.OK {
			return e
		}
	}
	return r.locks.Ask(r.job.What == Prune)
}

// take: a step more to the lock; has it come to nothing?
func (r *Repo) take() (bool, api.Errno) {
	last, e := r.locks.Step()
	switch {
	case e == api.ErrMiss: // somebody took its draft away
		return true, api.ErrCorrupt
	case e != api.OK:
		return true, e
	}
	if last {
		r.job.turn = working
	}
	return false, api.OK
}
