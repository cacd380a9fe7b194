package crew_test

import (
	"fmt"
	"maps"
	"slices"
	"strings"
	"testing"

	"hypogeum/api"
	"hypogeum/crew"
	"hypogeum/pack"
	"hypogeum/repo"
)

// Die: the client stops where it stands, at each step of each work: what it left is as it was, its lock stays till it is stale, and all go on.
func TestDie(t *testing.T) {
	for _, w := range works(1) {
		for k := range 7 {
			what := fmt.Sprint("work ", w.What, ", step ", k)
			c := newCrew(t, 3)
			do(t, c, 0, repo.Work{What: repo.Backup, Items: first()})
			do(t, c, 0, repo.Work{What: repo.Backup, Items: first()})
			begin(t, c, 1, w)
			for range k {
				c.Step(1)
			}
			was, busy, old, n := objects(t, c), c.Busy(1), c.Repo(1), c.Steps()
			checkErrno(t, what, c.Die(1), api.OK)
			checkSame(t, what, objects(t, c), was)
			checkHolds(t, what, c, 1, false, false)
			if c.Busy(1) || c.Repo(1) == nil || c.Repo(1) == old || c.Steps() != n {
				t.Error(what)
			}
			if _, last, e := c.Step(1); !last || e != api.ErrMiss {
				t.Error(what, last, e)
			}
			locks := names(t, c, "l/")
			if want := busy && k >= 3; (len(locks) == 1) != want {
				t.Fatal(what, locks)
			}
			prune := repo.Work{What: repo.Prune}
			other := repo.Work{What: repo.Backup, Items: second()}
			checkTick(t, c, 1000, 1000)
			if len(locks) > 0 {
				checkNot(t, c, 0, prune, api.ErrLocked)
				if w.What == repo.Prune {
					checkNot(t, c, 2, other, api.ErrLocked)
				} else {
					do(t, c, 2, other)
				}
				if l := names(t, c, "l/"); !slices.Equal(l, locks) {
					t.Error(what, l)
				}
			}
			checkTick(t, c, 1, 1)
			do(t, c, 2, other)
			do(t, c, 2, prune)
			checkPruned(t, what, c)
			if l := slices.Concat(names(t, c, "l/"), names(t, c, "t/")); len(l) > 0 {
				t.Error(what, l)
			}
			checkRestore(t, what, c, 1, 2, first())
			do(t, c, 1, other)
			do(t, c, 1, prune)
			if l := slices.Concat(names(t, c, "l/"), names(t, c, "k/")); len(l) > 0 {
				t.Error(what, l)
			}
		}
	}
}

// Whoever died isn't refused by what its own elder life left.
func TestDieGoesOn(t *testing.T) {
	for _, w := range works(1) {
		for _, next := range works(1) {
			c := newCrew(t, 2)
			do(t, c, 0, repo.Work{What: repo.Backup, Items: first()})
			begin(t, c, 1, w)
			if w.What != repo.List {
				steps(t, c, 1, 4)
			}
			checkErrno(t, "Die", c.Die(1), api.OK)
			do(t, c, 1, next)
			do(t, c, 1, repo.Work{What: repo.Prune})
			checkPruned(t, "behind", c)
		}
	}
}

// An elder life's lock that has another name than the new one's stays, and others meet it, till it is stale.
func TestElderLockStays(t *testing.T) {
	c := newCrew(t, 2)
	for range 3 {
		do(t, c, 1, repo.Work{What: repo.Backup, Items: first()})
	}
	begin(t, c, 1, repo.Work{What: repo.Prune})
	steps(t, c, 1, 5)
	checkErrno(t, "Die", c.Die(1), api.OK)
	do(t, c, 1, repo.Work{What: repo.Backup, Items: second()})
	if l := names(t, c, "l/"); !slices.Equal(l, []string{"l/01-3"}) {
		t.Error(l)
	}
	checkNot(t, c, 0, repo.Work{What: repo.Restore, Seq: 1}, api.ErrLocked)
	checkTick(t, c, 1001, 1001)
	checkRestore(t, "stale", c, 0, 4, second())
	do(t, c, 0, repo.Work{What: repo.Prune})
	if l := names(t, c, "l/"); len(l) > 0 {
		t.Error(l)
	}
}

// Errors of Open: the client stays as it was, and goes on with its work.
func TestDieRefused(t *testing.T) {
	c := newCrew(t, 2)
	do(t, c, 0, repo.Work{What: repo.Backup, Items: first()})
	whole := c.Photo()
	for want, act := range map[api.Errno]func(){
		api.ErrMiss:    func() { c.Steal("config") },
		api.ErrCorrupt: func() { c.Forge("config", []byte("junk")) },
		api.ErrDown:    func() { c.Arm(0); c.Nudge() },
	} {
		begin(t, c, 1, repo.Work{What: repo.Restore, Seq: 1})
		steps(t, c, 1, 4)
		locked := c.Photo()
		act()
		old := c.Repo(1)
		checkErrno(t, "Die", c.Die(1), want)
		checkHolds(t, "refused", c, 1, true, false)
		if !c.Busy(1) || c.Repo(1) != old {
			t.Error(want)
		}
		c.Crash()
		c.Restore(locked)
		if a, e := finish(c, 1); e != api.OK || !sorted(a.Items, first()) {
			t.Error(want, e)
		}
		c.Restore(whole)
	}
	checkErrno(t, "Die", c.Die(1), api.OK)
	checkRestore(t, "behind", c, 1, 1, first())
}

// nonces: of all that was sealed and laid into the store, with what is sealed by each.
type nonces map[string]string

// add: of an object, whose bytes these are.
func (n nonces) add(t *testing.T, c *crew.Crew, name, b string) {
	t.Helper()
	switch name[:2] {
	case "s/", "x/", "l/":
		n.put(t, name, b)
	case "p/":
		s, _, e := c.Repo(0).Saver()
		checkErrno(t, "Saver", e, api.OK)
		l, e := pack.Entries(s.Ring, []byte(b))
		checkErrno(t, "Entries", e, api.OK)
		end := 0
		for _, x := range l {
			end = x.Off + x.Len
			n.put(t, name, b[x.Off:end])
		}
		n.put(t, name, b[end:len(b)-4])
	}
}

func (n nonces) put(t *testing.T, name, sealed string) {
	t.Helper()
	nonce := sealed[:16]
	if was, ok := n[nonce]; ok && was != sealed {
		t.Errorf("%s: a nonce is used twice", name)
	}
	n[nonce] = sealed
}

// A tape of its own: no nonce is used twice, in whichever life: also where nothing was changed between two of them, and the elder hand goes on.
func TestTapesOfTheirOwn(t *testing.T) {
	c := newCrew(t, 3)
	n := nonces{}
	seen := map[string]string{}
	watch := func() {
		t.Helper()
		for name, b := range objects(t, c) {
			if seen[name] != b {
				seen[name] = b
				n.add(t, c, name, b)
			}
		}
	}
	hands := []*repo.Repo{c.Repo(0), c.Repo(1), c.Repo(2)}
	for life := range 12 {
		for who := range 3 {
			checkErrno(t, "Die", c.Die(who), api.OK)
			hands = append(hands, c.Repo(who))
		}
		if life > 2 {
			continue
		}
		for who := range 3 {
			begin(t, c, who, repo.Work{What: repo.Backup, Items: []api.Item{file(fmt.Sprint(life, who), some(int64(life*10+who), 3000))}})
			for c.Busy(who) {
				_, _, e := c.Step(who)
				checkErrno(t, "Step", e, api.OK)
				watch()
			}
		}
	}
	// All lives of all clients, from the time when each began.
	for i, r := range hands {
		if _, e := r.Do(repo.Work{What: repo.Backup, Items: []api.Item{file("f", some(int64(1000+i), 2000))}}); e != api.OK {
			t.Fatal(i, e)
		}
		watch()
	}
	if len(n) < 300 {
		t.Error(len(n))
	}
}

// Two lives of one client that begin where nothing was changed between them seal otherwise: so do two clients.
func TestLivesSealOtherwise(t *testing.T) {
	c := newCrew(t, 2)
	seen := map[string]bool{}
	image := c.Photo()
	for life := range 15 {
		for who := range 2 {
			begin(t, c, who, repo.Work{What: repo.Check})
			steps(t, c, who, 2)
			b, e := c.Get(fmt.Sprint("k/0", who))
			checkErrno(t, "Get", e, api.OK)
			seen[string(b[:16])] = true
			checkErrno(t, "Restore", c.Restore(image), api.OK)
			checkErrno(t, "Die", c.Die(who), api.OK)
		}
		if len(seen) != 2*life+2 {
			t.Fatal(life, len(seen))
		}
	}
}

// A client that dies while the power is off is as it was; behind that all go on, and what was answered is there.
func TestPower(t *testing.T) {
	for n := range 12 {
		c := newCrew(t, 2)
		do(t, c, 0, repo.Work{What: repo.Backup, Items: first()})
		c.Arm(n)
		begin(t, c, 1, repo.Work{What: repo.Backup, Items: second()})
		a, e := finish(c, 1)
		if !c.Off() {
			checkErrno(t, "Backup", e, api.OK)
			c.Arm(0)
			c.Nudge()
		} else if e != api.ErrDown || !isEmpty(a) {
			t.Error(n, a, e)
		}
		checkErrno(t, "Die", c.Die(1), api.ErrDown)
		checkNot(t, c, 0, repo.Work{What: repo.List}, api.ErrDown)
		c.Crash(n)
		checkErrno(t, "Die", c.Die(1), api.OK)
		checkTick(t, c, 1001, 1001)
		do(t, c, 0, repo.Work{What: repo.Prune})
		l := seqs(do(t, c, 1, repo.Work{What: repo.List}).Snaps)
		if !slices.Equal(l, []int{1}) && !slices.Equal(l, []int{1, 2}) || e == api.OK && len(l) != 2 {
			t.Error(n, l)
		}
		for _, seq := range l {
			checkRestore(t, "behind", c, 1, seq, [][]api.Item{first(), second()}[seq-1])
		}
		left := maps.Clone(objects(t, c))
		maps.DeleteFunc(left, func(name, _ string) bool { return !strings.HasPrefix(name, "t/") && !strings.HasPrefix(name, "l/") })
		checkSame(t, fmt.Sprint(n), left, nil)
	}
}
