package crew_test

import (
	"fmt"
	"maps"
	"math/rand"
	"slices"
	"strings"
	"testing"

	"hypogeum/api"
	"hypogeum/crew"
	"hypogeum/repo"
)

// script is what clients of a crew do, step by step, and what came of it.
type script struct {
	t      *testing.T
	what   string
	crew   *crew.Crew
	count  int
	events int
	mayDie bool // then locks and drafts of elder lives may go
	under  []*op
	mine   []map[string]string // what of the store each one's steps have changed since its Begin, as it was ahead
	ops    []*op
	locked int
	proofs int
}

func newScript(t *testing.T, what string, c *crew.Crew, count int) *script {
	return &script{t: t, what: what, crew: c, count: count, under: make([]*op, count), mine: make([]map[string]string, count)}
}

// begin: a client's work.
func (s *script) begin(who int, w repo.Work) {
	s.t.Helper()
	s.events++
	s.under[who] = &op{who: who, w: w, from: s.events, begun: s.crew.Now(), to: 1 << 60, ended: 1 << 60}
	s.mine[who] = map[string]string{}
	checkErrno(s.t, s.what, s.crew.Begin(who, w), api.OK)
}

// step: of a client; was it the last one?
func (s *script) step(who int) bool {
	s.t.Helper()
	s.events++
	was := s.objects()
	a, last, e := s.crew.Step(who)
	s.changed(who, was, s.objects())
	s.under[who].steps++
	s.checkAlone()
	if !last && (e != api.OK || !isEmpty(a)) {
		s.t.Fatal(s.what, a, e)
	}
	if last {
		s.ended(who, a, e)
	}
	return last
}

// objects: none, while the power is off.
func (s *script) objects() map[string]string {
	s.t.Helper()
	if s.crew.Off() {
		return nil
	}
	return objects(s.t, s.crew)
}

// changed: what a step did.
func (s *script) changed(who int, was, is map[string]string) {
	for name, b := range was {
		if now, ok := is[name]; !ok || now != b {
			s.note(who, name, b)
		}
	}
	for name := range is {
		if _, ok := was[name]; !ok {
			s.note(who, name, "none")
		}
	}
}

func (s *script) note(who int, name, was string) {
	if _, ok := s.mine[who][name]; !ok {
		s.mine[who][name] = was
	}
}

// ended: a client's work is over.
func (s *script) ended(who int, a repo.Answer, e api.Errno) {
	s.t.Helper()
	x := s.under[who]
	s.under[who] = nil
	x.a, x.e, x.to, x.ended, x.answered = a, e, s.events, s.crew.Now(), e != api.ErrDown
	if e != api.OK && !isEmpty(a) {
		s.t.Fatal(s.what, a, e)
	}
	if e == api.ErrLocked && x.w.What != repo.List {
		s.locked++
		s.checkRefused(who)
		return
	}
	s.ops = append(s.ops, x)
}

// checkRefused: P23.4: whoever is refused has changed nothing.
func (s *script) checkRefused(who int) {
	s.t.Helper()
	is := s.objects()
	for name, was := range s.mine[who] {
		now, ok := is[name]
		if !ok {
			now = "none"
		}
		own := strings.HasPrefix(name, fmt.Sprintf("l/%02d-", who)) || name == fmt.Sprintf("k/%02d", who)
		if !own || now != was && !(s.mayDie && now == "none") {
			s.t.Fatal(s.what, "refused, but changed", name)
		}
	}
}

// checkAlone: P23.3: a Prune never holds its lock beside another one's work.
func (s *script) checkAlone() {
	s.t.Helper()
	held, alone := 0, 0
	for who := range s.count {
		// Ahead of its first step it may have one still that it couldn't release, as the power went.
		if has, is := s.crew.Holds(who); has && s.crew.Busy(who) && s.under[who].steps > 0 {
			held++
			if is {
				alone++
			}
			if is != (s.under[who].w.What == repo.Prune) {
				s.t.Fatal(s.what, "whose lock is alone?")
			}
		}
	}
	if alone > 0 && held > 1 {
		s.t.Fatal(s.what, held, "locks, though one is alone")
	}
}

// die: a client; what it did isn't answered.
func (s *script) die(who int) {
	s.t.Helper()
	e := s.crew.Die(who)
	if s.crew.Off() {
		checkErrno(s.t, s.what, e, api.ErrDown)
		return
	}
	checkErrno(s.t, s.what, e, api.OK)
	if s.under[who] != nil {
		s.events++
		s.under[who].to, s.under[who].ended = s.events, s.crew.Now()
		s.ops = append(s.ops, s.under[who])
		s.under[who] = nil
	}
}

// check: P23.2: all that was answered was done in some order; and behind it all is there, and just that.
func (s *script) check() {
	s.t.Helper()
	for who := range s.count {
		for s.under[who] != nil {
			s.step(who)
		}
	}
	s.crew.Tick(1001)
	who := s.events % s.count
	for _, w := range []repo.Work{{What: repo.List}, {What: repo.Prune}, {What: repo.List}, {What: repo.Check}} {
		s.begin(who, w)
		for !s.step(who) {
		}
	}
	l := s.ops[len(s.ops)-2].a.Snaps
	for _, x := range l {
		s.begin(who, repo.Work{What: repo.Restore, Seq: x.Seq})
		for !s.step(who) {
		}
	}
	if n := s.ops[len(s.ops)-1]; n.e != api.OK {
		s.t.Fatal(s.what, n.w.What, n.e)
	}
	checkPruned(s.t, s.what, s.crew)
	if !inOrder(s.ops) {
		for _, x := range s.ops {
			s.t.Log(x.who, x.w.What, x.w.Seq, x.from, x.to, x.answered, x.a.Seq, seqs(x.a.Snaps), len(x.a.Items), x.e)
		}
		s.t.Fatal(s.what, "there is no order in which all was done at once")
	}
}

// orders: all in which so many steps of one and so many of another may come, as the one's, from the first on.
func orders(one, other int) [][]bool {
	if one+other == 0 {
		return [][]bool{nil}
	}
	var all [][]bool
	if one > 0 {
		for _, l := range orders(one-1, other) {
			all = append(all, append([]bool{true}, l...))
		}
	}
	if other > 0 {
		for _, l := range orders(one, other-1) {
			all = append(all, append([]bool{false}, l...))
		}
	}
	return all
}

// stepsOf: how many steps work has.
func stepsOf(w repo.Work) int {
	if w.What == repo.List {
		return 1
	}
	return 6
}

// prepared: a crew with two snapshots, 1 and 3; each time the same.
func prepared(t *testing.T) *crew.Crew {
	t.Helper()
	c := newCrew(t, 3)
	do(t, c, 2, repo.Work{What: repo.Backup, Items: first(), Note: "first"})
	do(t, c, 2, repo.Work{What: repo.Backup, Items: []api.Item{file("gone", some(7, 900))}})
	do(t, c, 2, repo.Work{What: repo.Backup, Items: second(), Note: "second"})
	do(t, c, 2, repo.Work{What: repo.Forget, Seq: 2})
	return c
}

// history: that of prepared.
func history() []*op {
	one := func(n int, w repo.Work, seq int) *op {
		return &op{who: 2, w: w, from: -10 + n, to: -10 + n, answered: true, a: repo.Answer{Seq: seq}}
	}
	return []*op{
		one(1, repo.Work{What: repo.Backup, Items: first(), Note: "first"}, 1), one(2, repo.Work{What: repo.Backup, Items: []api.Item{file("gone", some(7, 900))}}, 2),
		one(3, repo.Work{What: repo.Backup, Items: second(), Note: "second"}, 3), one(4, repo.Work{What: repo.Forget, Seq: 2}, 0),
	}
}

// P23.2 to P23.4: each two works in the orders of their steps, of the many that two with a lock have in each fourth: whoever isn't refused did all at once,
// between its begin and its end.
func TestOrders(t *testing.T) {
	for _, one := range works(1) {
		t.Run(fmt.Sprint(one.What), func(t *testing.T) {
			t.Parallel()
			for _, other := range works(1) {
				if other.What < one.What {
					continue
				}
				refused, both := 0, 0
				for i, order := range orders(stepsOf(one), stepsOf(other)) {
					// All of them would take minutes.
					if len(order) > 7 && (i+one.What+other.What)%4 > 0 {
						continue
					}
					s := newScript(t, fmt.Sprint(one.What, " ", other.What, " ", order), prepared(t), 3)
					s.ops = history()
					s.begin(0, one)
					s.begin(1, other)
					for _, isOne := range order {
						who := 1
						if isOne {
							who = 0
						}
						if s.under[who] != nil {
							s.step(who)
						}
					}
					s.check()
					refused += min(s.locked, 1)
					both += 1 - min(s.locked, 1)
				}
				meet := (one.What == repo.Prune || other.What == repo.Prune) && one.What != repo.List && other.What != repo.List
				if both == 0 || (refused > 0) != meet {
					t.Error(one.What, other.What, refused, both)
				}
			}
		})
	}
}

// any: work by chance, some of it on what isn't there.
func (s *script) any(chance *rand.Rand) repo.Work {
	s.proofs++
	n, _ := s.crew.Read()
	w := repo.Work{What: 1 + chance.Intn(6), Note: fmt.Sprint("note ", s.proofs), Items: chancy(chance, 3), Seq: chance.Intn(n + 3)}
	if chance.Intn(3) == 0 {
		w.What = repo.Backup
	}
	return w
}

// turn: something by chance: a step of some client, some time, a death, or an end of the power.
func (s *script) turn(chance *rand.Rand, crashes bool) {
	s.t.Helper()
	who := chance.Intn(s.count)
	switch {
	case chance.Intn(10) == 0:
		if n := chance.Intn(800); s.crew.Tick(n) > n {
			s.t.Fatal(s.what, "Tick")
		}
	case s.mayDie && chance.Intn(25) == 0:
		s.die(who)
	case crashes && s.crew.Off():
		if chance.Intn(3) == 0 {
			s.crew.Crash(chance.Int(), chance.Int())
		}
	case crashes && chance.Intn(25) == 0:
		s.crew.Arm(chance.Intn(30))
	case s.under[who] == nil:
		if !s.crew.Off() {
			s.begin(who, s.any(chance))
		}
	default:
		s.step(who)
	}
}

// P23.1 to P23.4: scripts of some clients in any order of their steps, with time between: also with deaths, and ends of the power.
func TestScripts(t *testing.T) {
	for kind := range 3 {
		t.Run(fmt.Sprint(kind), func(t *testing.T) {
			t.Parallel()
			locked, done := 0, map[int]int{}
			for seed := range int64(40) {
				chance := rand.New(rand.NewSource(seed))
				count := 2 + chance.Intn(4)
				c := newCrew(t, count)
				s := newScript(t, fmt.Sprint(kind, " ", seed), c, count)
				s.mayDie = kind > 0
				for n := range 200 {
					s.what = fmt.Sprint(kind, " ", seed, " ", n)
					s.turn(chance, kind == 2)
				}
				if c.Off() {
					c.Crash()
				}
				c.Arm(1 << 30)
				s.check()
				locked += s.locked
				for _, x := range s.ops {
					if x.answered && x.e == api.OK {
						done[x.w.What]++
					}
				}
			}
			if locked < 20 || len(done) != 6 || slices.Min(slices.Collect(maps.Values(done))) < 20 {
				t.Error(locked, done)
			}
		})
	}
}

// P23.1: every work comes to its end, in so many steps of its own, whatever others do in between.
func TestEveryWorkEnds(t *testing.T) {
	chance := rand.New(rand.NewSource(3))
	c := newCrew(t, 8)
	s := newScript(t, "ends", c, 8)
	count := make([]int, 8)
	for range 3000 {
		who := chance.Intn(8)
		if !c.Busy(who) {
			s.under[who] = nil
			s.begin(who, s.any(chance))
			count[who] = 0
		}
		count[who]++
		if _, last, _ := c.Step(who); !last && count[who] > 10 {
			t.Fatal(who, count[who])
		}
	}
}

// One script does the same in each of two crews; with another beginning other bytes are laid, and all answers are the same.
func TestSameAgain(t *testing.T) {
	var stores []map[string]string
	var answers []string
	for _, beginning := range []string{"a", "a", "b"} {
		chance := rand.New(rand.NewSource(8))
		c, e := crew.New(4, room, []byte(beginning))
		checkErrno(t, "New", e, api.OK)
		s := newScript(t, "again", c, 4)
		s.mayDie = true
		for range 300 {
			s.turn(chance, false)
		}
		s.check()
		told := ""
		for _, x := range s.ops {
			for i := range x.a.Snaps {
				x.a.Snaps[i].Root = api.Id{}
			}
			told += fmt.Sprint(x.who, x.w.What, x.a, x.e, "\n")
		}
		stores, answers = append(stores, objects(t, c)), append(answers, told)
	}
	if !maps.Equal(stores[0], stores[1]) || maps.Equal(stores[0], stores[2]) || answers[0] != answers[1] || answers[0] != answers[2] {
		t.Error("not the same")
	}
}

// One alone is never beside others, also where both looked ahead of either's lock.
func TestBothLook(t *testing.T) {
	for _, w := range works(1) {
		if w.What == repo.List {
			continue
		}
		s := newScript(t, fmt.Sprint(w.What), prepared(t), 3)
		s.ops = history()
		s.begin(0, repo.Work{What: repo.Prune})
		s.begin(1, w)
		for range 3 {
			s.step(0)
			s.step(1)
		}
		if !s.step(0) || s.locked != 1 {
			t.Error(w.What, "isn't refused")
		}
		s.check()
	}
}
