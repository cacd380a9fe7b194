package crew_test

import (
	"fmt"
	"slices"

	"hypogeum/api"
	"hypogeum/repo"
)

// op is work of a history: when it was begun and when it ended, counted by events and by the clock; what came of it.
type op struct {
	who      int
	w        repo.Work
	from, to int
	begun    int
	ended    int
	steps    int
	answered bool // else it died, or the power went: perhaps it was done
	a        repo.Answer
	e        api.Errno
}

// state is what a list of trees has, by the works that were done one behind the other.
type state struct {
	records int
	snaps   []*op // those that aren't forgotten, by their numbers
	seqs    []int
}

// after: the state when the work is done as well; false: not with this answer.
func (s state) after(x *op) (state, bool) {
	at := slices.Index(s.seqs, x.w.Seq)
	want := api.OK
	if (x.w.What == repo.Restore || x.w.What == repo.Forget) && at < 0 {
		want = api.ErrMiss
	}
	if x.answered && x.e != want {
		return s, false
	}
	next := state{s.records, slices.Clone(s.snaps), slices.Clone(s.seqs)}
	switch {
	case want != api.OK:
	case x.w.What == repo.Backup:
		next.records++
		next.snaps, next.seqs = append(next.snaps, x), append(next.seqs, next.records)
		return next, !x.answered || x.a.Seq == next.records
	case x.w.What == repo.Forget:
		next.records++
		next.snaps, next.seqs = slices.Delete(next.snaps, at, at+1), slices.Delete(next.seqs, at, at+1)
	case x.w.What == repo.List:
		return s, !x.answered || s.isList(x.a.Snaps)
	case x.w.What == repo.Restore:
		return s, !x.answered || sorted(x.a.Items, s.snaps[at].w.Items)
	}
	return next, !x.answered || isEmpty(x.a)
}

// isList: are these the snapshots, with their notes, and times at which their work was under way?
func (s state) isList(l []api.Snap) bool {
	if !slices.Equal(seqs(l), s.seqs) {
		return false
	}
	for i, x := range l {
		made := s.snaps[i]
		if x.Note != made.w.Note || x.Time < made.begun || x.Time > made.ended {
			return false
		}
	}
	return true
}

// search looks for an order in which the works were done.
type search struct {
	ops    []*op
	done   []bool
	failed map[string]bool
}

// inOrder: is there one in which all answers are right, each work at some time between its begin and its end?
func inOrder(ops []*op) bool {
	s := search{ops, make([]bool, len(ops)), map[string]bool{}}
	return s.from(state{})
}

// from: is there one of the works that are left, from that state on?
func (s *search) from(now state) bool {
	key := fmt.Sprint(s.done, now.seqs, now.records)
	if s.failed[key] {
		return false
	}
	last := int(^uint(0) >> 1) // whatever is begun behind it isn't next
	left := false
	for i, x := range s.ops {
		if !s.done[i] && x.answered {
			last, left = min(last, x.to), true
		}
	}
	if !left {
		return true
	}
	for i, x := range s.ops {
		if s.done[i] || x.from > last {
			continue
		}
		next, ok := now.after(x)
		if !ok {
			continue
		}
		changes := next.records != now.records
		if !changes && !x.answered {
			continue
		}
		s.done[i] = true
		if s.from(next) {
			return true
		}
		s.done[i] = false
		if !changes {
			break // what changes nothing may as well come first
		}
	}
	s.failed[key] = true
	return false
}
