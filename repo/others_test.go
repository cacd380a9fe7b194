package repo_test

import (
	"fmt"
	"maps"
	"math/rand"
	"slices"
	"strings"
	"testing"

	"hypogeum/api"
	"hypogeum/repo"
	"hypogeum/shelf"
)

// attacked: a place with some snapshots, of which each blob or some have a pack; the truth of it; and objects that were there in elder times.
func attacked(t *testing.T, target int) (*place, *truth, map[string]string) {
	t.Helper()
	p := newPlace(t, room)
	c := config()
	c.Target = target
	r, e := repo.Create(p.site("create"), c)
	checkErrno(t, "Create", e, api.OK)
	x, elder := newTruth(), map[string]string{}
	for _, w := range []repo.Work{
		{What: repo.Backup, Items: trees()[0], Note: "a"}, {What: repo.Backup, Items: many(0, 4)}, {What: repo.Backup, Items: trees()[3]},
		{What: repo.Forget, Seq: 2}, {What: repo.Prune}, {What: repo.Backup, Items: trees()[1]}, {What: repo.Backup, Items: many(2, 3)}, {What: repo.Forget, Seq: 1},
	} {
		begin(t, r, w)
		for last := false; !last; {
			_, last, e = r.Step()
			maps.Copy(elder, p.objects())
		}
		checkErrno(t, "attacked", e, api.OK)
		x.done(w, 0)
	}
	for name := range p.objects() {
		delete(elder, name)
	}
	return p, x, elder
}

// attack is what somebody does who hasn't the word.
type attack struct {
	what string
	act  func(p *place)
	may  []api.Errno // errors that work may have, beside ErrCorrupt
}

// put: an attack by which objects have other bytes.
func put(what string, m map[string]string, may ...api.Errno) attack {
	return attack{what, func(p *place) {
		for name, b := range m {
			p.forge(name, b)
		}
	}, may}
}

// attacks: on each object that is there; and by objects of elder times, and others'.
func attacks(p *place, elder map[string]string) []attack {
	var l []attack
	objects := p.objects()
	names := slices.Sorted(maps.Keys(objects))
	for i, name := range names {
		b := objects[name]
		l = append(l, attack{"steals " + name, func(p *place) { p.store.Steal(name) }, nil})
		for _, at := range []int{0, 16, len(b) / 2, len(b) - 1} {
			other := []byte(b)
			other[at] ^= 32
			l = append(l, put(fmt.Sprint("other byte ", at, " of ", name), map[string]string{name: string(other)}))
		}
		for _, other := range []string{"", b[:len(b)/2], b + "x", objects[names[(i+1)%len(names)]]} {
			l = append(l, put(fmt.Sprint(len(other), " other bytes of ", name), map[string]string{name: other}))
		}
		next := names[(i+1)%len(names)]
		l = append(l, put("swaps "+name, map[string]string{name: objects[next], next: b}))
	}
	for name, b := range elder {
		var may []api.Errno
		if isLock(name) {
			may = []api.Errno{api.ErrLocked}
		}
		l = append(l, put("elder "+name, map[string]string{name: b}, may...))
	}
	l = append(l, put("all elder ones", elder, api.ErrLocked))
	for _, name := range []string{"x/junk", "p/junk", "s/junk", "s/00000009", "t/junk", "k/03", "k/09", "l/junk", "l/03-0", "l/09-0", "w/junk", "other"} {
		for _, b := range []string{"", "junk", objects["config"], objects["s/00000001"]} {
			l = append(l, put("lays "+name, map[string]string{name: b}))
		}
	}
	return l
}

// checkHonest: the answer to work is the right one, or ErrCorrupt, or another error that may be; what is there now.
func checkHonest(t *testing.T, what string, x *truth, w repo.Work, a repo.Answer, e api.Errno, may ...api.Errno) *truth {
	t.Helper()
	switch {
	case e == api.ErrCorrupt, slices.Contains(may, e):
		if !isEmpty(a) {
			t.Errorf("%s, work %d: %v beside %d", what, w.What, a, e)
		}
		return x
	case e != x.want(w):
		t.Errorf("%s, work %d: %d", what, w.What, e)
		return x
	}
	after := x.clone()
	if e == api.OK {
		after.done(w, 0)
		if w.What == repo.Check {
			a.Lost = nil
		}
		if !after.right(w, a) {
			t.Errorf("%s, work %d: %v", what, w.What, a)
		}
	}
	return after
}

// allWorks: some of each kind.
func allWorks() []repo.Work {
	return append(works(), repo.Work{What: repo.Restore, Seq: 3}, repo.Work{What: repo.Restore, Seq: 6}, repo.Work{What: repo.Restore, Seq: 2},
		repo.Work{What: repo.Forget, Seq: 3}, repo.Work{What: repo.Forget, Seq: 2}, repo.Work{What: repo.Backup, Items: trees()[0]}, repo.Work{What: repo.Backup, Items: many(0, 9)})
}

// openHonest: a hand, if there is one; else the error may be.
func openHonest(t *testing.T, what string, p *place) *repo.Repo {
	t.Helper()
	r, e := repo.Open(p.site(what), by(3))
	_, there := p.objects()["config"]
	if e != api.OK && e != api.ErrCorrupt && !(e == api.ErrMiss && !there) {
		t.Errorf("%s: Open: %d", what, e)
	}
	return r
}

// P21.3: whatever was done to the store, ahead of opening it and behind: all works answer what is right, or ErrCorrupt; and so do all behind each.
func TestAttacks(t *testing.T) {
	for _, target := range []int{1, 400, 800000} {
		whole, truth, elder := attacked(t, target)
		for _, y := range attacks(whole, elder) {
			for i, w := range allWorks() {
				p, x := whole.clone(), truth
				var r *repo.Repo
				if i%2 == 0 {
					r = p.open("r", 3)
				}
				y.act(p)
				if i%2 == 1 {
					if r = openHonest(t, y.what, p); r == nil {
						continue
					}
				}
				a, e := r.Do(w)
				x = checkHonest(t, y.what, x, w, a, e, y.may...)
				if i < 6 {
					for _, w := range []repo.Work{{What: repo.List}, {What: repo.Restore, Seq: 3}, {What: repo.Restore, Seq: 7}, {What: repo.Restore, Seq: 9}} {
						a, e := r.Do(w)
						checkHonest(t, y.what, x, w, a, e, y.may...)
					}
				}
			}
		}
	}
}

// P21.3: somebody takes away, changes or lays an object between any two steps of any work.
func TestAttacksBetweenSteps(t *testing.T) {
	whole, truth, elder := attacked(t, 400)
	all := attacks(whole, elder)
	for _, name := range []string{"k/03", "l/03-0"} {
		all = append(all, attack{"steals " + name, func(p *place) { p.store.Steal(name) }, nil}, put("junk in "+name, map[string]string{name: "junk"}))
	}
	for _, y := range all {
		for i, w := range works() {
			if strings.HasPrefix(y.what, "other byte") && i%2 == 1 {
				continue
			}
			for k := range 7 {
				p := whole.clone()
				r := p.open("r", 3)
				w.Seq = 3
				begin(t, r, w)
				var a repo.Answer
				var e api.Errno
				for n, last := 0, false; !last; n++ {
					if n == k {
						y.act(p)
					}
					a, last, e = r.Step()
				}
				x := checkHonest(t, fmt.Sprint(y.what, " ahead of step ", k), truth, w, a, e, y.may...)
				for _, w := range []repo.Work{{What: repo.List}, {What: repo.Restore, Seq: 6}} {
					a, e := r.Do(w)
					checkHonest(t, fmt.Sprint(y.what, " ahead of step ", k), x, w, a, e, y.may...)
				}
			}
		}
	}
}

// P21.3: scripts in which somebody does many things, one behind the other, and puts some of them right again.
func TestAttackScripts(t *testing.T) {
	right, corrupt := 0, 0
	for seed := range int64(80) {
		chance := rand.New(rand.NewSource(seed))
		p, x, elder := attacked(t, 1+chance.Intn(900))
		r := p.open("r", 3)
		all := attacks(p, elder)
		for n := range 40 {
			what := fmt.Sprint(seed, " ", n)
			if chance.Intn(3) == 0 {
				was := p.store.Photo()
				y := all[chance.Intn(len(all))]
				if !strings.HasPrefix(y.what, "steals") {
					y.act(p)
				} else if l := p.names(""); len(l) > 0 {
					p.steal(l[chance.Intn(len(l))])
				}
				if chance.Intn(3) > 0 {
					for range 1 + chance.Intn(3) {
						w := repo.Work{What: []int{repo.List, repo.Restore, repo.Check}[chance.Intn(3)], Seq: x.any(chance).Seq}
						a, e := r.Do(w)
						checkHonest(t, what, x, w, a, e, api.ErrLocked)
					}
					p.store.Restore(was)
				}
			}
			if chance.Intn(5) == 0 {
				if o := openHonest(t, what, p); o != nil {
					r = o
				}
			}
			w := x.any(chance)
			a, e := r.Do(w)
			x = checkHonest(t, what, x, w, a, e, api.ErrLocked)
			if e == api.OK {
				right++
			} else if e == api.ErrCorrupt {
				corrupt++
			}
		}
	}
	if right < 100 || corrupt < 100 {
		t.Error(right, corrupt)
	}
}

// P21.3: a whole store of an elder time is told, if records came since; if none came, all is right.
func TestElderStores(t *testing.T) {
	p := newPlace(t, room)
	r, x := p.create(), newTruth()
	var images []*shelf.Image
	var records []int
	keep := func() { images, records = append(images, p.store.Photo()), append(records, x.records) }
	keep()
	for i, w := range []repo.Work{
		{What: repo.Backup, Items: trees()[0]}, {What: repo.Backup, Items: trees()[1]}, {What: repo.Prune}, {What: repo.Forget, Seq: 1}, {What: repo.Prune},
		{What: repo.Backup, Items: trees()[0]}, {What: repo.Backup}, {What: repo.Forget, Seq: 2}, {What: repo.Prune}, {What: repo.Check},
	} {
		do(t, r, w)
		x.done(w, 0)
		keep()
		now := p.store.Photo()
		for j, image := range images {
			for _, theirs := range works() {
				theirs.Seq = slices.Min(append(slices.Collect(maps.Keys(x.snaps)), 99))
				checkErrno(t, "Restore", p.store.Restore(image), api.OK)
				o := p.open("o", 3)
				if records[j] < x.records {
					checkNot(t, fmt.Sprint(i, j), o, theirs, api.ErrCorrupt)
					checkNot(t, fmt.Sprint(i, j), r, theirs, api.ErrCorrupt)
				} else if theirs.What != repo.Backup && theirs.What != repo.Forget { // these would raise the cell
					a, e := o.Do(theirs)
					if e != x.want(theirs) || e == api.OK && !x.right(theirs, a) {
						t.Error(i, j, theirs.What, e)
					}
				}
			}
		}
		checkErrno(t, "Restore", p.store.Restore(now), api.OK)
	}
	checkSnaps(t, "end", r, x.trees)
}

// newPacks: the names of packs that a work makes, where all is as in the place that make makes each time.
func newPacks(t *testing.T, make func() (*place, *repo.Repo), w repo.Work) []string {
	t.Helper()
	p, r := make()
	was := p.objects()
	do(t, r, w)
	return slices.DeleteFunc(p.names("p/"), func(name string) bool { _, ok := was[name]; return ok })
}

// ErrThere of Backup and of Prune: somebody laid other bytes where a pack is to be published: no snapshot is made then, and none goes; both are kept.
func TestThere(t *testing.T) {
	for i, w := range []repo.Work{{What: repo.Backup, Items: many(0, 30)}, {What: repo.Prune}} {
		make := func() (*place, *repo.Repo) {
			p, r := created(t, trees()...)
			if w.What == repo.Prune {
				backup(t, r, many(0, 20), 5)
				backup(t, r, many(5, 20), 6)
				do(t, r, repo.Work{What: repo.Forget, Seq: 5})
			}
			return p, r
		}
		l := newPacks(t, make, w)
		if len(l) < 1+2*(1-i) {
			t.Fatal(w.What, l)
		}
		for _, name := range l {
			p, r := make()
			snaps := list(t, r)
			p.forge(name, "theirs")
			was := p.objects()
			checkNot(t, name, r, w, api.ErrThere)
			got := p.objects()
			if b := got["w/"+name[2:]]; "p/"+digits([]byte(b)) != name {
				t.Error(w.What, "no twin")
			}
			delete(got, "w/"+name[2:])
			if !maps.Equal(got, was) {
				t.Error(w.What, slices.Sorted(maps.Keys(got)), slices.Sorted(maps.Keys(was)))
			}
			checkList(t, name, r, snaps...)
			do(t, r, w)
			p.checkPlaces(name, map[string]int{"l/": 0, "t/": 0})
			checkWhole(t, name, r)
		}
	}
}

// ErrFull and ErrLocked: somebody's objects take the room, or are locks that he kept.
func TestOthersTakeRoom(t *testing.T) {
	whole, x, elder := attacked(t, 400)
	p := newPlace(t, whole.store.Used()+100)
	p.fill(whole)
	r := p.open("r", 3)
	p.forge("theirs", string(make([]byte, 4000)))
	was := p.objects()
	for _, w := range works() {
		w.Seq = 3
		a, e := r.Do(w)
		if w.What == repo.List {
			checkErrno(t, "List", e, api.OK)
			if !x.right(w, a) {
				t.Error(a)
			}
			continue
		}
		if e != api.ErrFull || !isEmpty(a) {
			t.Error(w.What, a, e)
		}
		p.checkObjects("full", was)
	}
	p.steal("theirs")
	checkRestore(t, "room", r, 3, trees()[3])

	for name, b := range elder {
		if !strings.HasPrefix(name, "l/") {
			continue
		}
		p := whole.clone()
		r := p.open("r", 3)
		p.forge(name, b)
		checkNot(t, name, r, repo.Work{What: repo.Prune}, api.ErrLocked)
		p.clock.Tick(1001)
		p.pruned(name, r)
		p.checkPlaces(name, map[string]int{"l/": 0})
	}
}

// P21.3: an index of an elder time is laid back, whose packs are gone: a Prune doesn't believe it, so nothing that is needed is given up.
func TestElderIndex(t *testing.T) {
	p, r := created(t, many(0, 20), many(5, 20), many(7, 25))
	elder := map[string]string{}
	for name, b := range p.objects() {
		if strings.HasPrefix(name, "x/") {
			elder[name] = b
		}
	}
	do(t, r, repo.Work{What: repo.Forget, Seq: 2})
	p.pruned("first", r)
	backup(t, r, trees()[0], 5)
	p.pruned("second", r) // its index names that of the first as elder, and no others
	x := map[int][]api.Item{1: many(0, 20), 3: many(7, 25), 5: trees()[0]}
	corrupt := 0
	for name, b := range elder {
		p.forge(name, b)
		if _, e := r.Do(repo.Work{What: repo.Prune}); e == api.ErrCorrupt {
			corrupt++
			p.steal(name)
		} else if e != api.OK {
			t.Error(e)
		}
		checkSnaps(t, name, r, x)
		checkWhole(t, name, r)
	}
	if corrupt == 0 {
		t.Error("no elder index was told")
	}
}
