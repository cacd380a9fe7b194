package repo_test

import (
	"fmt"
	"math"
	"slices"
	"strings"
	"testing"

	"hypogeum/api"
	"hypogeum/lock"
	"hypogeum/repo"
)

// works: one of each kind that is possible where snapshot 1 is, and that ends with OK.
func works() []repo.Work {
	return []repo.Work{
		{What: repo.Backup, Items: trees()[1], Note: "n"}, {What: repo.List}, {What: repo.Restore, Seq: 1},
		{What: repo.Forget, Seq: 1}, {What: repo.Prune}, {What: repo.Check},
	}
}

// checkStep: the next step isn't the last one.
func checkStep(t *testing.T, what string, r *repo.Repo) {
	t.Helper()
	if a, last, e := r.Step(); last || e != api.OK || !isEmpty(a) {
		t.Fatalf("%s: Step: %v, %v, %d", what, a, last, e)
	}
}

func checkLast(t *testing.T, what string, r *repo.Repo, want api.Errno) {
	t.Helper()
	if a, last, e := r.Step(); !last || e != want || e != api.OK && !isEmpty(a) {
		t.Fatalf("%s: Step: %v, %v, %d, not %d", what, a, last, e, want)
	}
}

func checkHeld(t *testing.T, what string, r *repo.Repo, has, alone bool) {
	t.Helper()
	if h, a := r.Held(); h != has || a != alone {
		t.Errorf("%s: Held: %v, %v", what, h, a)
	}
}

func begin(t *testing.T, r *repo.Repo, w repo.Work) {
	t.Helper()
	checkErrno(t, "Begin", r.Begin(w), api.OK)
}

// Begin: What is 1 to 6; while work is under way: ErrThere, ahead of that. Step: ErrMiss, and true, while nothing is.
func TestBegin(t *testing.T) {
	_, r := created(t, trees()[0])
	checkLast(t, "nothing", r, api.ErrMiss)
	for _, what := range []int{0, 7, -1, math.MinInt, math.MaxInt} {
		checkErrno(t, "Begin", r.Begin(repo.Work{What: what}), api.ErrArg)
		checkNot(t, "Do", r, repo.Work{What: what}, api.ErrArg)
		checkLast(t, "nothing", r, api.ErrMiss)
	}
	for _, w := range works() {
		begin(t, r, w)
		for i := 0; ; i++ {
			for what := range 8 {
				checkErrno(t, "Begin", r.Begin(repo.Work{What: what}), api.ErrThere)
				checkNot(t, "Do", r, repo.Work{What: what}, api.ErrThere)
			}
			if _, last, e := r.Step(); last {
				checkErrno(t, fmt.Sprint(w.What, i), e, api.OK)
				break
			}
		}
		checkLast(t, "through", r, api.ErrMiss)
	}
}

// The lock: its four steps come first; Prune's is alone; List takes none; it ends with Release.
func TestLockSteps(t *testing.T) {
	for _, w := range works() {
		what := fmt.Sprint("work ", w.What)
		p, r := created(t, trees()[0])
		begin(t, r, w)
		if w.What == repo.List {
			steps := p.store.Steps()
			checkLast(t, what, r, api.OK)
			checkHeld(t, what, r, false, false)
			if p.store.Steps() != steps {
				t.Error("List changes something")
			}
			continue
		}
		for i, want := range [][]string{{}, {"k/07"}, {"l/07-1"}} {
			checkStep(t, what, r)
			checkHeld(t, what, r, false, false)
			if l := slices.DeleteFunc(p.names(""), func(name string) bool { return !isLock(name) }); !slices.Equal(l, want) {
				t.Error(what, i, l)
			}
		}
		checkStep(t, what, r)
		checkHeld(t, what, r, true, w.What == repo.Prune)
		l, e := lock.New(p.store, pen(p), p.clock, 8)
		checkErrno(t, "lock.New", e, api.OK)
		want := api.OK
		if w.What == repo.Prune {
			want = api.ErrLocked
		}
		checkErrno(t, what, l.Take(false), want)
		l.Release()
		for {
			p.checkPlaces(what, map[string]int{"l/07-1": 1})
			checkHeld(t, what, r, true, w.What == repo.Prune)
			if _, last, e := r.Step(); last {
				checkErrno(t, what, e, api.OK)
				break
			}
		}
		checkHeld(t, what, r, false, false)
		p.checkPlaces(what, map[string]int{"l/": 0, "k/": 0, "t/": 0})
	}
}

// In the first step, ahead of the lock: ErrInvalid, then ErrForm; nothing is changed, also where there is no power.
func TestBackupLookedAt(t *testing.T) {
	p, r := created(t, trees()[0])
	long := strings.Repeat("n", 1001)
	invalid := []api.Item{file("a", ""), file("a", "")}
	deep := []api.Item{dir("d")}
	deep[0].Kids = deep // without end
	twice := []api.Item{dir("d"), dir("e")}
	twice[0].Kids, twice[1].Kids = twice, twice
	for i, x := range []struct {
		w    repo.Work
		want api.Errno
	}{
		{repo.Work{Items: invalid}, api.ErrInvalid}, {repo.Work{Items: invalid, Note: long}, api.ErrInvalid}, {repo.Work{Items: []api.Item{file("..", "")}}, api.ErrInvalid},
		{repo.Work{Items: deep}, api.ErrInvalid}, {repo.Work{Items: twice}, api.ErrInvalid},
		{repo.Work{Note: long}, api.ErrForm}, {repo.Work{Items: trees()[0], Note: long}, api.ErrForm},
	} {
		x.w.What = repo.Backup
		was, steps := p.objects(), p.store.Steps()
		begin(t, r, x.w)
		checkLast(t, fmt.Sprint(i), r, x.want)
		checkLast(t, fmt.Sprint(i), r, api.ErrMiss)
		p.checkObjects(fmt.Sprint(i), was)
		if p.store.Steps() != steps {
			t.Error(i, "changes")
		}
		p.store.Arm(0)
		p.store.Nudge()
		checkNot(t, "off", r, x.w, x.want)
		p.store.Crash()
	}
	// Of other works Items and Note don't matter.
	for _, w := range works()[1:] {
		w.Items, w.Note = invalid, long
		do(t, r, w)
	}
	if a := do(t, r, repo.Work{What: repo.Backup, Note: long[:1000], Items: trees()[0]}); a.Seq != 3 {
		t.Error(a.Seq)
	}
	if a := do(t, r, repo.Work{What: repo.List}); len(a.Snaps) != 1 || a.Snaps[0].Note != long[:1000] {
		t.Error(a.Snaps)
	}
}

// What is handed in isn't kept: who changes it behind Begin changes nothing; nor is it changed.
func TestItemsAreCopied(t *testing.T) {
	_, r := created(t)
	items, want := trees()[0], trees()[0]
	begin(t, r, repo.Work{What: repo.Backup, Items: items})
	if items[0].Name != "z" || items[1].Kids[1].Name != "l" {
		t.Error("changed")
	}
	items[1].Kids[0].Data = "other"
	items[0] = file("..", "")
	for i := 0; ; i++ {
		if _, last, e := r.Step(); last {
			checkErrno(t, "Step", e, api.OK)
			break
		}
		items[1].Kids[1] = file(fmt.Sprint(i), "")
	}
	checkRestore(t, "copied", r, 1, want)
	// Answers are new memory.
	a := do(t, r, repo.Work{What: repo.Restore, Seq: 1})
	clear(a.Items[1].Kids)
	clear(a.Items)
	checkRestore(t, "new", r, 1, want)
	clear(do(t, r, repo.Work{What: repo.List}).Snaps)
	checkList(t, "new", r, 1)
}

// ErrLocked: whoever is alone meets all others, and they meet him; it changes nothing. List takes no lock.
func TestLocked(t *testing.T) {
	for _, theirs := range works() {
		for _, ours := range works() {
			what := fmt.Sprint("theirs ", theirs.What, ", ours ", ours.What)
			p, r := created(t, trees()[0])
			o := p.open("other", 9)
			begin(t, o, theirs)
			if theirs.What != repo.List {
				for range 4 {
					checkStep(t, what, o)
				}
			}
			was := p.objects()
			if (theirs.What == repo.Prune || ours.What == repo.Prune) && theirs.What != repo.List && ours.What != repo.List {
				checkNot(t, what, r, ours, api.ErrLocked)
				p.checkObjects(what, was)
				checkHeld(t, what, r, false, false)
			} else {
				do(t, r, ours)
			}
			for {
				_, last, e := o.Step()
				if last {
					// Both may forget the same one.
					if e != api.OK && !(e == api.ErrMiss && ours.What == repo.Forget) {
						t.Error(what, e)
					}
					break
				}
			}
			p.checkPlaces(what, map[string]int{"l/": 0, "k/": 0, "t/": 0})
		}
	}
}

// ErrLocked of the lock's last step: both looked ahead of either's lock.
func TestLockedLate(t *testing.T) {
	p, r := created(t, trees()[0])
	o := p.open("other", 9)
	was := p.objects()
	begin(t, r, repo.Work{What: repo.Prune})
	begin(t, o, repo.Work{What: repo.Backup, Items: trees()[1]})
	for range 3 {
		checkStep(t, "r", r)
		checkStep(t, "o", o)
	}
	checkLast(t, "r", r, api.ErrLocked)
	for range 4 {
		if _, last, e := o.Step(); last {
			checkErrno(t, "o", e, api.OK)
			break
		}
	}
	checkList(t, "o", o, 1, 2)
	for name, b := range was {
		if p.objects()[name] != b {
			t.Error(name)
		}
	}
	p.checkPlaces("both", map[string]int{"l/": 0, "k/": 0})
}

// A lock of one who died holds till it is stale; a Prune takes it away then.
func TestStaleLock(t *testing.T) {
	p, r := created(t, trees()[0])
	o := p.open("other", 9)
	begin(t, o, repo.Work{What: repo.Backup, Items: trees()[1]})
	for range 4 {
		checkStep(t, "o", o)
	}
	p.clock.Tick(1000)
	checkNot(t, "holds", r, repo.Work{What: repo.Prune}, api.ErrLocked)
	p.clock.Tick(1)
	p.pruned("stale", r)
	p.checkPlaces("stale", map[string]int{"l/": 0})
}

// A lock that couldn't be released, as the power went: the next work of the same hand does it.
func TestLeftLock(t *testing.T) {
	for _, w := range works() {
		if w.What == repo.List {
			continue
		}
		p, r := created(t, trees()[0])
		begin(t, r, w)
		last := false
		for n := 0; !last; n++ {
			if n == 4 {
				p.store.Arm(0)
			}
			_, last, _ = r.Step()
		}
		checkHeld(t, "off", r, true, w.What == repo.Prune)
		for _, x := range works()[1:] {
			checkNot(t, "off", r, x, api.ErrDown)
		}
		p.store.Crash()
		p.checkPlaces("left", map[string]int{"l/": 1})
		if w.What == repo.Backup {
			o := p.open("other", 9)
			checkNot(t, "left", o, repo.Work{What: repo.Prune}, api.ErrLocked)
		}
		checkRestore(t, "on", r, 1, trees()[0])
		checkHeld(t, "on", r, false, false)
		p.checkPlaces("on", map[string]int{"l/": 0})
		p.pruned("on", p.open("other", 9))
	}
}

// Whatever error there is, the lock is released.
func TestReleasedBesideErrors(t *testing.T) {
	p, r := created(t, trees()...)
	do(t, r, repo.Work{What: repo.Forget, Seq: 2})
	for _, w := range []repo.Work{{What: repo.Restore, Seq: 2}, {What: repo.Restore, Seq: 5}, {What: repo.Forget, Seq: 2}, {What: repo.Forget, Seq: 9}} {
		was := p.objects()
		begin(t, r, w)
		for range 4 {
			checkStep(t, "miss", r)
		}
		checkLast(t, "miss", r, api.ErrMiss)
		checkLast(t, "behind", r, api.ErrMiss)
		checkHeld(t, "miss", r, false, false)
		p.checkObjects("miss", was)
	}
	p.forge("x/junk", "junk")
	for _, w := range works() {
		if w.What == repo.List {
			checkList(t, "junk", r, 1, 3, 4)
			continue
		}
		checkNot(t, "junk", r, w, api.ErrCorrupt)
		checkHeld(t, "junk", r, false, false)
		p.checkPlaces("junk", map[string]int{"l/": 0, "k/": 0})
	}
}

// ErrDown, if the power goes by the Release, whatever else there was.
func TestReleaseOff(t *testing.T) {
	for _, w := range []repo.Work{{What: repo.Restore, Seq: 1}, {What: repo.Restore, Seq: 7}, {What: repo.Check}} {
		p, r := created(t, trees()[0])
		begin(t, r, w)
		for range 4 {
			checkStep(t, "lock", r)
		}
		p.store.Arm(0)
		if w.Seq != 7 {
			checkStep(t, "work", r)
		}
		checkLast(t, "release", r, api.ErrDown)
		checkLast(t, "behind", r, api.ErrMiss)
	}
}
