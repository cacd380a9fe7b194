package repo_test

import (
	"fmt"
	"maps"
	"math/rand"
	"slices"
	"testing"

	"hypogeum/api"
	"hypogeum/repo"
)

// truthOf: that of a place by created.
func truthOf(l ...[]api.Item) *truth {
	x := newTruth()
	for i, items := range l {
		x.done(repo.Work{What: repo.Backup, Items: items, Note: note(i + 1)}, 10*i+10)
	}
	return x
}

// goesOn: whatever was broken off: all work is possible.
func (p *place) goesOn(what string, r *repo.Repo, x *truth) {
	p.t.Helper()
	for _, w := range []repo.Work{
		{What: repo.List}, {What: repo.Check}, {What: repo.Backup, Items: trees()[1], Note: "more"}, {What: repo.Prune}, {What: repo.List},
		{What: repo.Restore, Seq: x.records + 1}, {What: repo.Forget, Seq: x.records + 1}, {What: repo.List}, {What: repo.Prune}, {What: repo.Check},
	} {
		a, e := r.Do(w)
		checkErrno(p.t, fmt.Sprint(what, ", work ", w.What), e, api.OK)
		x.done(w, p.clock.Now())
		if !x.right(w, a) {
			p.t.Fatal(what, w.What, a)
		}
		if w.What == repo.Prune {
			p.checkPruned(what, r)
		}
	}
	checkSnaps(p.t, what, r, x.trees)
}

// P21.2: each work broken off behind any number of changes, whatever stays of what wasn't synced: the snapshots are those of what was answered,
// and perhaps of this; and it is gone on with, by the same hand or a new one.
func TestBrokenOff(t *testing.T) {
	whole, r := created(t, trees()[0], many(0, 5), trees()[3])
	do(t, r, repo.Work{What: repo.Forget, Seq: 2})
	before := truthOf(trees()[0], many(0, 5), trees()[3])
	before.done(repo.Work{What: repo.Forget, Seq: 2}, 30)
	for _, w := range works() {
		w.Note = "broken off"
		after := before.clone()
		after.done(w, whole.clock.Now())
		for n, ended := 0, false; !ended; n++ {
			for pick, keep := range []int{0, 7, 1 << 20} {
				what := fmt.Sprint("work ", w.What, ", ", n, " changes, ", keep)
				p := whole.clone()
				r := p.open("r", 7)
				p.store.Arm(n)
				a, e := r.Do(w)
				ended = e == api.OK
				if p.store.Off() == ended || !ended && (e != api.ErrDown || !isEmpty(a)) {
					t.Fatal(what, a, e)
				}
				p.store.Crash(keep)
				p.store.Arm(1 << 30)
				if pick > 0 {
					r = p.open("s", 7)
				}
				got := after.clone()
				if l := do(t, r, repo.Work{What: repo.List}); !after.right(repo.Work{What: repo.List}, l) {
					got = before.clone()
					if ended || !before.right(repo.Work{What: repo.List}, l) {
						t.Fatal(what, numbers(l.Snaps))
					}
				}
				checkSnaps(t, what, r, got.trees)
				p.goesOn(what, r, got)
			}
		}
	}
}

// P21.2: in scripts in which the power goes again and again, in little room too: the snapshots are those of what was answered, and perhaps of what wasn't.
func TestCrashScripts(t *testing.T) {
	perhaps := 0
	for seed := range int64(60) {
		chance := rand.New(rand.NewSource(seed))
		p := newPlace(t, room)
		if seed%3 == 1 {
			p = newPlace(t, 8000+chance.Intn(20000))
		}
		r, x := p.create(), newTruth()
		for n := range 60 {
			what := fmt.Sprint(seed, " ", n)
			p.clock.Tick(chance.Intn(300))
			if chance.Intn(2) == 0 {
				p.store.Arm(chance.Intn(40))
			}
			w := x.any(chance)
			want := x.want(w)
			a, e := r.Do(w)
			switch {
			case e == want && e == api.OK:
				x.done(w, p.clock.Now())
				if !x.right(w, a) {
					t.Fatal(what, w.What, a)
				}
			case e == want, e == api.ErrFull && seed%3 == 1:
			case e != api.ErrDown:
				t.Fatal(what, w.What, e, want)
			}
			if !p.store.Off() {
				p.store.Arm(1 << 30)
				continue
			}
			p.store.Crash(chance.Int(), -chance.Int())
			if chance.Intn(2) == 0 {
				r = p.open(what, 7)
			}
			l := do(t, r, repo.Work{What: repo.List})
			if want == api.OK && !x.right(repo.Work{What: repo.List}, l) {
				x.done(w, p.clock.Now())
				perhaps++
			}
			if !x.right(repo.Work{What: repo.List}, l) {
				t.Fatal(what, w.What, numbers(l.Snaps), slices.Sorted(maps.Keys(x.snaps)))
			}
			// The note and the time are those of the list; what it has is asked, too.
			checkSnaps(t, what, p.clone().open("o", 7), x.trees)
		}
		q := p.clone()
		q.goesOn(fmt.Sprint(seed), q.open("o", 7), x)
	}
	if perhaps == 0 {
		t.Error("never was done what wasn't answered")
	}
}

// P21.2, P4: what was broken off doesn't take the room for good: a store with room for one Prune has room for it however often it was broken off.
func TestRoomBehindCrashes(t *testing.T) {
	whole, r := created(t, many(0, 12), many(6, 12), many(3, 5))
	do(t, r, repo.Work{What: repo.Forget, Seq: 1})
	// The least room in which it comes to its end at once.
	enough := whole.store.Used()
	for {
		enough += 50
		p := newPlace(t, enough)
		p.fill(whole)
		if _, e := p.open("p", 7).Do(repo.Work{What: repo.Prune}); e == api.OK {
			break
		}
	}
	p := newPlace(t, enough)
	p.fill(whole)
	r = p.open("p", 7)
	for n := range 60 {
		p.store.Arm(n)
		a, e := r.Do(repo.Work{What: repo.Prune})
		if e == api.OK {
			if n < 10 {
				t.Error(n, a)
			}
			p.checkPruned("room", r)
			return
		}
		checkErrno(t, fmt.Sprint(n), e, api.ErrDown)
		p.store.Crash(1 << 20)
	}
	t.Error("it never came to its end")
}

// P4: a record that doesn't count may have taken the room of a Prune: it goes ahead.
func TestRoomOfRecords(t *testing.T) {
	whole, r := created(t, many(0, 12), many(6, 12))
	do(t, r, repo.Work{What: repo.Forget, Seq: 1})
	for room := whole.store.Used(); ; room += 10 {
		p := newPlace(t, room)
		p.fill(whole)
		if _, e := p.open("p", 7).Do(repo.Work{What: repo.Prune}); e != api.OK {
			continue
		}
		for _, name := range []string{"s/00000004", "p/junk", "t/junk"} {
			p := newPlace(t, room)
			p.fill(whole)
			p.forge(name, string(make([]byte, 100)))
			p.pruned(name, p.open("p", 7))
		}
		return
	}
}

// P21.2: a Backup that has no room, and whose taking back is broken off: what is left doesn't stand against another Backup of the same tree.
func TestUndoBrokenOff(t *testing.T) {
	items := many(0, 12)
	whole, _ := created(t)
	full := 0
	for room := 0; ; room += 40 {
		ended := false
		for n := 0; ; n++ {
			what := fmt.Sprint(room, " ", n)
			p := newPlace(t, whole.store.Used()+room)
			p.fill(whole)
			r := p.open("r", 7)
			p.store.Arm(n)
			_, e := r.Do(repo.Work{What: repo.Backup, Items: items})
			ended = e == api.OK
			if ended || e == api.ErrFull {
				break
			}
			checkErrno(t, what, e, api.ErrDown)
			p.store.Crash(1 << 20)
			full++
			q := p.clone()
			r = q.open("q", 7)
			backup(t, r, items, q.next())
			for _, seq := range list(t, r) {
				checkRestore(t, what, r, seq, items)
			}
			q.pruned(what, r)
			checkWhole(t, what, r)
		}
		if ended {
			break
		}
	}
	if full < 100 {
		t.Error(full)
	}
}

// next: the number of the next record.
func (p *place) next() int {
	p.t.Helper()
	n, e := p.cell.Read()
	checkErrno(p.t, "Read", e, api.OK)
	return n + 1
}

// fill: all that another place has.
func (p *place) fill(o *place) {
	p.t.Helper()
	for name, b := range o.objects() {
		p.forge(name, b)
	}
	if n := o.next() - 1; n > 0 {
		checkErrno(p.t, "Raise", p.cell.Raise(n), api.OK)
	}
}

// P21.2: a crash between two steps: what wasn't synced is lost, and the hand goes on, or ends with an error; nothing is lost.
func TestCrashBetweenSteps(t *testing.T) {
	whole, _ := created(t, trees()...)
	for _, w := range works() {
		for k := range 8 {
			p := whole.clone()
			r := p.open("r", 7)
			x := truthOf(trees()...)
			begin(t, r, w)
			var a repo.Answer
			var e api.Errno
			for n, last := 0, false; !last; n++ {
				if n == k {
					p.store.Crash()
				}
				a, last, e = r.Step()
			}
			checkErrno(t, fmt.Sprint(w.What, k), e, api.OK)
			x.done(w, p.clock.Now())
			if !x.right(w, a) {
				t.Error(w.What, k, a)
			}
			p.goesOn(fmt.Sprint(w.What, k), r, x)
		}
	}
}
