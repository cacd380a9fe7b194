package crew_test

import (
	"fmt"
	"math"
	"slices"
	"strings"
	"testing"

	"hypogeum/api"
	"hypogeum/cell"
	"hypogeum/crew"
	"hypogeum/lock"
	"hypogeum/repo"
	"hypogeum/shelf"
)

// New: ErrArg: the count isn't 1 to 8, or the room isn't 0 to 2^30; ErrFull: there is no room for the config.
func TestNew(t *testing.T) {
	checkNone := func(count, room int, want api.Errno) {
		t.Helper()
		if c, e := crew.New(count, room, []byte("b")); c != nil || e != want {
			t.Errorf("New(%d, %d): %v, %d, not %d", count, room, c, e, want)
		}
	}
	for _, count := range []int{math.MinInt, -1, 0, 9, 10, 1<<32 + 1, math.MaxInt} {
		for _, room := range []int{-1, 0, 1 << 20, 1<<30 + 1} {
			checkNone(count, room, api.ErrArg)
		}
	}
	for count := 1; count <= 8; count++ {
		for _, room := range []int{math.MinInt, -1, 1<<30 + 1, math.MaxInt} {
			checkNone(count, room, api.ErrArg)
		}
		checkNone(count, 0, api.ErrFull)
		c, e := crew.New(count, 1<<30, nil)
		checkErrno(t, "New", e, api.OK)
		if l := names(t, c, ""); !slices.Equal(l, []string{"config"}) {
			t.Error(l)
		}
		for who := range count {
			checkHolds(t, "new", c, who, false, false)
			if c.Busy(who) || c.Repo(who) == nil {
				t.Error(who)
			}
		}
		size := c.Repo(0).Used()
		checkNone(count, size-1, api.ErrFull)
		if _, e := crew.New(count, size, []byte("b")); e != api.OK {
			t.Error(size, e)
		}
	}
}

// What New makes, to the last byte: clients by the document's words, one behind the other, do the same in a store of one's own; then each work of each client.
func TestConfigs(t *testing.T) {
	for _, beginning := range []string{"", "begin", "\x00\x01"} {
		given := []byte(beginning)
		c, e := crew.New(8, room, given)
		checkErrno(t, "New", e, api.OK)
		for i := range given {
			given[i]++ // it isn't kept
		}
		s, e := shelf.New(room)
		checkErrno(t, "shelf.New", e, api.OK)
		n, e := cell.New(s)
		checkErrno(t, "cell.New", e, api.OK)
		site := repo.Site{Shelf: s, Cell: n, Clock: new(cell.Clock)}
		var hands []*repo.Repo
		for i := range 8 {
			site.Begin = append([]byte(beginning), byte(i))
			open := repo.Open
			if i == 0 {
				open = repo.Create
			}
			r, e := open(site, config(i))
			checkErrno(t, "Open", e, api.OK)
			hands = append(hands, r)
			if s, _, e := c.Repo(i).Saver(); e != api.OK || s.Rule != config(i).Rule || string(c.Repo(i).Site.Begin) != beginning+string(rune(i)) {
				t.Error(i, s.Rule, e)
			}
		}
		for i, r := range hands {
			for _, w := range append(works(3*i+1), repo.Work{What: repo.Backup, Items: first()}) {
				site.Tick(10)
				checkTick(t, c, 10, 10)
				want, e := r.Do(w)
				checkErrno(t, "Do", e, api.OK)
				if got := do(t, c, i, w); fmt.Sprint(got) != fmt.Sprint(want) {
					t.Error(i, got, want)
				}
			}
		}
		want := map[string]string{}
		l, _ := s.List("")
		for _, name := range l {
			b, _ := s.Get(name)
			want[name] = string(b)
		}
		checkSame(t, beginning, objects(t, c), want)
	}
}

// The example of the chapter.
func TestExample(t *testing.T) {
	c := newCrew(t, 3)
	begin(t, c, 0, repo.Work{What: repo.Backup, Items: first()})
	begin(t, c, 1, repo.Work{What: repo.Backup, Items: second()})
	got := [2]int{}
	for c.Busy(0) || c.Busy(1) {
		for who := range 2 {
			if !c.Busy(who) {
				continue
			}
			if a, last, e := c.Step(who); last {
				checkErrno(t, "Step", e, api.OK)
				got[who] = a.Seq
			}
		}
	}
	if got != [2]int{1, 2} {
		t.Error(got)
	}
	checkList(t, "behind", c, 2, 1, 2)
	checkRestore(t, "behind", c, 2, 1, first())
	checkRestore(t, "behind", c, 2, 2, second())
}

// Begin and Step are the hand's: ErrThere, ErrArg, ErrMiss; Busy and Holds tell of each client for itself.
func TestCalls(t *testing.T) {
	for _, w := range works(1) {
		c := newCrew(t, 3)
		do(t, c, 0, repo.Work{What: repo.Backup, Items: first()})
		for _, what := range []int{0, -1, 7, math.MaxInt, math.MinInt} {
			checkErrno(t, "Begin", c.Begin(1, repo.Work{What: what}), api.ErrArg)
		}
		if a, last, e := c.Step(1); !isEmpty(a) || !last || e != api.ErrMiss || c.Busy(1) {
			t.Error(a, last, e)
		}
		begin(t, c, 1, w)
		n := 0
		for last := false; !last; n++ {
			for what := range 8 {
				checkErrno(t, "Begin", c.Begin(1, repo.Work{What: what}), api.ErrThere)
			}
			if !c.Busy(1) || c.Busy(0) || c.Busy(2) {
				t.Error(w.What, n, "busy")
			}
			has, alone := c.Repo(1).Held()
			checkHolds(t, "itself", c, 1, has, alone)
			checkHolds(t, "another", c, 0, false, false)
			if has != (n == 4 || n == 5) || alone != (has && w.What == repo.Prune) {
				t.Error(w.What, n, has, alone)
			}
			var a repo.Answer
			var e api.Errno
			a, last, e = c.Step(1)
			if checkErrno(t, "Step", e, api.OK); !last && !isEmpty(a) {
				t.Error(a)
			}
		}
		if want := 6; w.What != repo.List && n != want || c.Busy(1) || len(names(t, c, "l/"))+len(names(t, c, "k/")) > 0 {
			t.Error(w.What, n)
		}
		checkHolds(t, "through", c, 1, false, false)
		if _, last, e := c.Step(1); !last || e != api.ErrMiss {
			t.Error(last, e)
		}
	}
}

// No such client: ErrMiss; no crew: ErrArg; nothing beside these.
func TestNobody(t *testing.T) {
	c := newCrew(t, 3)
	check := func(c *crew.Crew, who int, want api.Errno) {
		t.Helper()
		checkErrno(t, "Begin", c.Begin(who, repo.Work{What: repo.List}), want)
		checkErrno(t, "Begin", c.Begin(who, repo.Work{}), want)
		if a, last, e := c.Step(who); !isEmpty(a) || !last || e != want {
			t.Error("Step", a, last, e)
		}
		checkErrno(t, "Die", c.Die(who), want)
		checkHolds(t, "nobody", c, who, false, false)
		if c.Busy(who) || c.Repo(who) != nil {
			t.Error("Busy, Repo")
		}
	}
	for _, who := range []int{-1, 3, 8, 1 << 32, math.MinInt, math.MaxInt} {
		check(c, who, api.ErrMiss)
		check(new(crew.Crew), who, api.ErrMiss)
	}
	for _, who := range []int{-1, 0, 1, math.MaxInt} {
		check(nil, who, api.ErrArg)
	}
	for _, n := range []int{0, 1, 1000, -1, math.MinInt, math.MaxInt} {
		var none *crew.Crew
		if got := none.Tick(n) + new(crew.Crew).Tick(n); got != 0 {
			t.Error("Tick", n, got)
		}
	}
}

// checkTick: the clock goes on by that.
func checkTick(t *testing.T, c *crew.Crew, n, want int) {
	t.Helper()
	was := c.Repo(0).Now()
	if got := c.Tick(n); got != want || c.Repo(0).Now() != was+want {
		t.Errorf("Tick(%d) at %d: %d, to %d, not %d", n, was, got, c.Repo(0).Now(), want)
	}
}

// Tick: by n, as long as nobody is busy; never below 0, nor beyond the clock's end.
func TestTickOfNobody(t *testing.T) {
	c := newCrew(t, 2)
	for _, n := range []int{0, 1, 1000, 1001, 50000} {
		checkTick(t, c, n, n)
	}
	for _, n := range []int{-1, -1000, math.MinInt} {
		checkTick(t, c, n, 0)
	}
	do(t, c, 1, repo.Work{What: repo.Backup, Items: first()})
	checkTick(t, c, 1<<39, 1<<39)
	checkTick(t, c, math.MaxInt, 1<<39-52002)
	checkTick(t, c, 1, 0)
	do(t, c, 1, repo.Work{What: repo.Backup, Items: first()})
	if l := do(t, c, 0, repo.Work{What: repo.List}).Snaps; len(l) != 2 || l[0].Time != 52002 || l[1].Time != 1<<40 {
		t.Error(l)
	}
}

// Tick: so far that no client is busy for more than 1000 ticks: of each work, from its Begin on, in however many calls.
func TestTickOfBusy(t *testing.T) {
	if lock.Stale != 1000 {
		t.Error(lock.Stale)
	}
	for _, w := range works(1) {
		c := newCrew(t, 3)
		do(t, c, 0, repo.Work{What: repo.Backup, Items: first()})
		checkTick(t, c, 5000, 5000)
		begin(t, c, 1, w)
		checkTick(t, c, 300, 300)
		checkErrno(t, "refused", c.Begin(1, w), api.ErrThere) // which is no begin
		checkTick(t, c, -1, 0)
		begin(t, c, 2, repo.Work{What: repo.Check})
		checkTick(t, c, 699, 699)
		checkTick(t, c, math.MaxInt, 1)
		checkTick(t, c, 1, 0)
		_, e := finish(c, 1)
		checkErrno(t, "finish", e, api.OK)
		checkTick(t, c, 2000, 300)
		checkTick(t, c, 2000, 0)
		begin(t, c, 1, w)
		checkTick(t, c, 2000, 0)
		_, e = finish(c, 2)
		checkErrno(t, "finish", e, api.OK)
		checkTick(t, c, 999, 999)
		checkErrno(t, "Die", c.Die(1), api.OK)
		checkTick(t, c, 2000, 2000)
	}
}

// Work that a client's hand begins, steps or ends by itself counts as well.
func TestTickOfHands(t *testing.T) {
	c := newCrew(t, 2)
	checkTick(t, c, 7000, 7000)
	w := repo.Work{What: repo.Backup, Items: first()}
	checkErrno(t, "Begin", c.Repo(1).Begin(w), api.OK)
	if !c.Busy(1) || c.Busy(0) {
		t.Error("Busy")
	}
	checkErrno(t, "Begin", c.Begin(1, w), api.ErrThere)
	checkTick(t, c, 400, 400)
	checkTick(t, c, 2000, 600)
	_, e := finish(c, 1)
	checkErrno(t, "finish", e, api.OK)
	checkErrno(t, "Begin", c.Repo(1).Begin(w), api.OK)
	checkTick(t, c, 2000, 1000)
	for last := false; !last; {
		_, last, _ = c.Repo(1).Step()
	}
	if c.Busy(1) {
		t.Error("Busy")
	}
	checkTick(t, c, 2000, 2000)
	// One who moves the clock without the crew: it doesn't go back.
	begin(t, c, 0, w)
	c.Repo(0).Tick(5000)
	checkTick(t, c, 10, 0)
	if _, e := finish(c, 0); e != api.OK {
		t.Error(e)
	}
	checkTick(t, c, 10, 10)
	c.Repo(1).Tick(3000)
	begin(t, c, 0, w)
	checkTick(t, c, 2000, 1000)
}

// No lock of one at work is stale, however the clock is moved: so a Prune waits for it.
func TestTickKeepsLocks(t *testing.T) {
	for k := 3; k < 6; k++ { // from its lock's third step on, which lays it there
		c := newCrew(t, 2)
		do(t, c, 0, repo.Work{What: repo.Backup, Items: first()})
		begin(t, c, 1, repo.Work{What: repo.Backup, Items: second()})
		for range k {
			checkTick(t, c, 100, 100)
			steps(t, c, 1, 1)
		}
		c.Tick(math.MaxInt)
		checkNot(t, c, 0, repo.Work{What: repo.Prune}, api.ErrLocked)
		_, e := finish(c, 1)
		checkErrno(t, "finish", e, api.OK)
		do(t, c, 0, repo.Work{What: repo.Prune})
		checkPruned(t, "behind", c)
		checkRestore(t, "behind", c, 1, 2, second())
	}
}

// A crew embeds its site: the store's, the cell's and the clock's calls are its own; so are they each hand's.
func TestEmbedsSite(t *testing.T) {
	c := newCrew(t, 2)
	do(t, c, 1, repo.Work{What: repo.Backup, Items: first()})
	checkTick(t, c, 5, 5)
	for who := range 2 {
		r := c.Repo(who)
		if r.Shelf != c.Shelf || r.Cell != c.Cell || r.Clock != c.Clock {
			t.Error(who)
		}
		if n, e := r.Read(); n != 1 || e != api.OK || r.Now() != 5 || r.Used() != c.Used() || r.Steps() != c.Steps() || c.Now() != 5 {
			t.Error(who, n, e)
		}
	}
	checkErrno(t, "Forge", c.Forge("x/junk", []byte("junk")), api.OK)
	checkNot(t, c, 0, repo.Work{What: repo.Check}, api.ErrCorrupt)
	checkErrno(t, "Steal", c.Steal("x/junk"), api.OK)
	do(t, c, 0, repo.Work{What: repo.Check})
}

// Rule 4, 5: what is handed in isn't kept or changed; a crew of the same beginning does the same.
func TestItemsAreCopied(t *testing.T) {
	c, d := newCrew(t, 1), newCrew(t, 1)
	items := []api.Item{file("z", "z"), dir("d", file("y", "y"), file("x", "x"))}
	begin(t, c, 0, repo.Work{What: repo.Backup, Items: items})
	if items[0].Name != "z" || items[1].Kids[0].Name != "y" {
		t.Error("changed")
	}
	do(t, d, 0, repo.Work{What: repo.Backup, Items: items})
	items[1].Kids[0].Data = strings.Repeat("a", 100)
	items[0] = file("..", "")
	if a, e := finish(c, 0); a.Seq != 1 || e != api.OK {
		t.Error(a, e)
	}
	checkSame(t, "two crews", objects(t, c), objects(t, d))
	checkRestore(t, "behind", c, 0, 1, []api.Item{file("z", "z"), dir("d", file("y", "y"), file("x", "x"))})
}
