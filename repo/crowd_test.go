package repo_test

import (
	"fmt"
	"maps"
	"math/rand"
	"slices"
	"testing"

	"hypogeum/api"
	"hypogeum/repo"
	"hypogeum/tree"
)

// finish: the steps that are left; what came of them.
func finish(r *repo.Repo) (repo.Answer, api.Errno) {
	for {
		if a, last, e := r.Step(); last {
			return a, e
		}
	}
}

// Between any two steps of Backup others' work doesn't hurt it: one of each kind, and some of them; also where so much time goes by that its lock is stale,
// and a Prune takes it away.
func TestOthersBetweenSteps(t *testing.T) {
	items := append(slices.Clone(trees()[1]), many(0, 6)...)
	ours := repo.Work{What: repo.Backup, Items: items, Note: "ours"}
	for k := range 6 {
		for theirs := range 128 {
			what := fmt.Sprint("step ", k, ", theirs ", theirs)
			p, r := created(t, trees()...)
			x := truthOf(trees()...)
			begin(t, r, ours)
			for range k {
				checkStep(t, what, r)
			}
			seq := 0
			if len(p.names("s/")) > x.records { // it has its number already
				x.done(ours, p.clock.Now())
				seq = x.records
			}
			if theirs>>6&1 == 1 {
				p.clock.Tick(1001)
			}
			o := p.open("other", 3)
			for i, w := range []repo.Work{
				{What: repo.Backup, Items: items[1:], Note: "theirs"}, {What: repo.Backup, Items: items}, {What: repo.Forget, Seq: 2},
				{What: repo.Prune}, {What: repo.Forget, Seq: 1}, {What: repo.Prune},
			} {
				if theirs>>i&1 == 1 {
					x.try(t, what, o, w)
				}
			}
			a, e := finish(r)
			checkErrno(t, what, e, api.OK)
			if seq == 0 {
				x.done(ours, p.clock.Now())
				seq = x.records
			}
			if a.Seq != seq {
				t.Error(what, a.Seq, "not", seq)
			}
			x.try(t, what, o, repo.Work{What: repo.List})
			checkSnaps(t, what, o, x.trees)
			p.clock.Tick(1001)
			p.pruned(what, o)
			checkSnaps(t, what, r, x.trees)
		}
	}
}

// try: work that is done, or, if it is a Prune, refused.
func (x *truth) try(t *testing.T, what string, r *repo.Repo, w repo.Work) {
	t.Helper()
	a, e := r.Do(w)
	if e == api.ErrLocked && w.What == repo.Prune {
		return
	}
	checkErrno(t, what, e, api.OK)
	x.done(w, r.Now())
	if !x.right(w, a) {
		t.Fatal(what, a)
	}
}

// hand is a client in a script of several.
type hand struct {
	*repo.Repo
	number int
	w      repo.Work
	busy   bool
	begun  int // at which time
	from   int // how many states there were
}

// crowd is a script of several clients.
type crowd struct {
	*place
	chance *rand.Rand
	hands  []*hand
	states []*truth // of the store, one behind the other
}

// watch: is there another state now? What is there is asked of the records, by the word's keys.
func (c *crowd) watch(h *hand) {
	c.t.Helper()
	n, _ := c.cell.Read()
	x := c.states[len(c.states)-1]
	if n == x.records {
		return
	}
	if n != x.records+1 {
		c.t.Fatal("more than one record in a step")
	}
	x = x.clone()
	x.done(h.w, c.clock.Now())
	c.states = append(c.states, x)
}

// step: of one of the clients.
func (c *crowd) step(what string, h *hand) {
	c.t.Helper()
	if !h.busy {
		h.w = c.states[len(c.states)-1].any(c.chance)
		h.busy, h.begun, h.from = true, c.clock.Now(), len(c.states)-1
		checkErrno(c.t, what, h.Begin(h.w), api.OK)
		return
	}
	was := withoutLocks(c.objects())
	a, last, e := h.Step()
	c.watch(h)
	if !last {
		return
	}
	h.busy = false
	if e == api.ErrLocked && h.w.What != repo.List { // for others, at work or dead
		if !maps.Equal(was, withoutLocks(c.objects())) {
			c.t.Fatal(what, "refused, but something is changed")
		}
		return
	}
	if !slices.ContainsFunc(c.states[h.from:], func(x *truth) bool { return c.couldBe(h, x, a, e) }) {
		c.t.Fatal(what, h.number, h.w.What, h.w.Seq, a, e)
	}
}

// couldBe: is that the answer, if the work was done at once when this was the state?
func (c *crowd) couldBe(h *hand, x *truth, a repo.Answer, e api.Errno) bool {
	if want := x.want(h.w); e != api.OK || want != api.OK {
		return e == want
	}
	switch h.w.What {
	case repo.Backup:
		_, ok := x.trees[a.Seq]
		return ok && x.records == a.Seq && slices.EqualFunc(x.trees[a.Seq], h.w.Items, func(a, b api.Item) bool { return tree.Same([]api.Item{a}, []api.Item{b}) })
	case repo.Forget:
		// It was there, and by now it isn't.
		_, ok := c.states[len(c.states)-1].trees[h.w.Seq]
		return !ok
	}
	return x.right(h.w, a)
}

// P21, P6: several clients in any order of their steps, with deaths: all answers are as if each work was done at once, at some time between its begin and its end;
// a Prune's lock is never held beside another one's; nothing that is needed is lost.
func TestCrowds(t *testing.T) {
	for seed := range int64(60) {
		c := &crowd{place: newPlace(t, room), chance: rand.New(rand.NewSource(seed)), states: []*truth{newTruth()}}
		c.create()
		for i := range 2 + c.chance.Intn(3) {
			c.hands = append(c.hands, &hand{Repo: c.open(fmt.Sprint("hand", i), i), number: i})
		}
		for n := range 400 {
			what := fmt.Sprint(seed, " ", n)
			h := c.hands[c.chance.Intn(len(c.hands))]
			c.step(what, h)
			c.checkAlone(what)
			if c.chance.Intn(40) == 0 {
				h.Repo, h.busy = c.open(what, h.number), false
			}
			if c.chance.Intn(10) == 0 {
				c.tick()
			}
		}
		for _, h := range c.hands {
			if h.busy {
				finish(h.Repo)
				c.watch(h)
			}
		}
		c.clock.Tick(1001)
		x := c.states[len(c.states)-1]
		checkSnaps(t, fmt.Sprint(seed), c.hands[0].Repo, x.trees)
		c.pruned(fmt.Sprint(seed), c.hands[0].Repo)
		c.checkPlaces(fmt.Sprint(seed), map[string]int{"l/0": len(c.names("l/00-"))})
		checkSnaps(t, fmt.Sprint(seed), c.hands[1].Repo, x.trees)
	}
}

// tick: time goes on, but not so far that a lock of one at work is stale.
func (c *crowd) tick() {
	most := 1000
	for _, h := range c.hands {
		if h.busy {
			most = min(most, 1000-(c.clock.Now()-h.begun))
		}
	}
	c.clock.Tick(c.chance.Intn(most + 1))
}

// checkAlone: who is alone is.
func (c *crowd) checkAlone(what string) {
	c.t.Helper()
	held, alone := 0, 0
	for _, h := range c.hands {
		has, is := h.Held()
		if has {
			held++
		}
		if is {
			alone++
		}
	}
	if alone > 0 && held > 1 {
		c.t.Fatal(what, held, alone)
	}
}
