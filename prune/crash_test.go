package prune_test

import (
	"fmt"
	"math/rand"
	"testing"

	"hypogeum/api"
	"hypogeum/prune"
)

// chancyOf: a tree by chance.
func chancyOf(seed int64) []api.Item {
	return chancy(rand.New(rand.NewSource(1000+seed)), 3)
}

// pick: these of all.
func pick[T any](all []T, l []int) []T {
	var some []T
	for _, i := range l {
		some = append(some, all[i])
	}
	return some
}

// P20.3: a Run broken off behind any number of changes loses nothing that is needed; done again it comes to its end.
func TestRunBrokenOff(t *testing.T) {
	for seed := range int64(4) {
		p := newPlace(t, seed)
		p.litter()
		keep := p.half(seed)
		need := needed(t, p.saver("n", 300), p.some(keep...)...)
		photo := p.store.Photo()
		for n := 0; ; n++ {
			ended := false
			for _, stays := range []int{0, 9, 1 << 20} {
				checkErrno(t, "Restore", p.store.Restore(photo), api.OK)
				ended = p.breakOff(fmt.Sprint(seed, n, stays), n, stays, need, keep...)
			}
			if ended {
				break
			}
		}
	}
}

// breakOff: a Run broken off behind so many changes, and done again; did it come to its end at once?
func (p *place) breakOff(what string, n, stays int, need map[api.Id]int, keep ...int) bool {
	p.t.Helper()
	s := p.saver("r", 300)
	p.store.Arm(n)
	plan, e := prune.Run(s, p.some(keep...)...)
	ended := e == api.OK
	if p.store.Off() == ended || !ended && (e != api.ErrDown || plan.Stay != nil || plan.Move != nil || plan.Gone != nil) {
		p.t.Fatal(what, e)
	}
	p.store.Crash(stays)
	s = p.saver("s", 300)
	p.checkLoads(what, s, keep...)
	run(p.t, what, s, p.some(keep...)...)
	checkPruned(p.t, what, p.store, need)
	p.checkLoads(what, s, keep...)
	p.checkAgain(what, s, keep...)
	return ended
}

// P20.3: broken off again and again, with other trees that are needed, and with what is saved in between: all that is needed is told all the time.
func TestRunBrokenOffOften(t *testing.T) {
	for seed := range int64(20) {
		chance := rand.New(rand.NewSource(seed))
		p := newPlace(t, seed)
		keep := p.all()
		for life := range 12 {
			what := fmt.Sprint(seed, life)
			// Some are forgotten, one comes.
			if i := chance.Intn(len(keep) + 3); i < len(keep) {
				keep = append(keep[:i], keep[i+1:]...)
			}
			if chance.Intn(2) == 0 {
				s := p.saver(what+", save", 1+chance.Intn(600))
				p.save(s, chancy(chance, 3)...)
				p.store.Arm(chance.Intn(30))
				if s.Commit() == api.OK {
					keep = append(keep, len(p.roots)-1)
				}
				p.store.Crash(chance.Int())
				p.checkLoads(what, p.saver(what, 300), keep...)
			}
			s := p.saver(what+", run", 1+chance.Intn(600))
			p.store.Arm(chance.Intn(20))
			_, e := prune.Run(s, p.some(keep...)...)
			if e != api.OK && e != api.ErrDown {
				t.Fatal(what, e)
			}
			p.store.Crash(chance.Int(), chance.Int())
			s = p.saver(what, 300)
			p.checkLoads(what, s, keep...)
			if e == api.OK {
				checkPruned(t, what, p.store, needed(t, s, p.some(keep...)...))
			}
		}
		s := p.saver("last", 300)
		need := needed(t, s, p.some(keep...)...)
		run(t, "last", s, p.some(keep...)...)
		checkPruned(t, "last", p.store, need)
		p.checkLoads("last", s, keep...)
		p.checkAgain("last", s, keep...)
	}
}
