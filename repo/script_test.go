package repo_test

import (
	"fmt"
	"maps"
	"math/rand"
	"slices"
	"testing"

	"hypogeum/api"
	"hypogeum/repo"
	"hypogeum/tree"
)

// truth is what a list of trees does.
type truth struct {
	records int
	snaps   map[int]api.Snap // their Roots aren't known here
	trees   map[int][]api.Item
}

func newTruth() *truth {
	return &truth{snaps: map[int]api.Snap{}, trees: map[int][]api.Item{}}
}

func (x *truth) clone() *truth {
	return &truth{x.records, maps.Clone(x.snaps), maps.Clone(x.trees)}
}

// want: what work answers, by the document's words.
func (x *truth) want(w repo.Work) api.Errno {
	switch w.What {
	case repo.Backup:
		switch {
		case tree.Check(w.Items...) != api.OK:
			return api.ErrInvalid
		case len(w.Note) > 1000:
			return api.ErrForm
		case len(x.snaps) >= api.MaxSnaps:
			return api.ErrFull
		}
	case repo.Restore, repo.Forget:
		if _, ok := x.snaps[w.Seq]; !ok {
			return api.ErrMiss
		}
	}
	return api.OK
}

// done: the work is.
func (x *truth) done(w repo.Work, now int) {
	switch w.What {
	case repo.Backup:
		x.records++
		x.snaps[x.records] = api.Snap{Seq: x.records, Time: now, Note: w.Note}
		x.trees[x.records] = w.Items
	case repo.Forget:
		x.records++
		delete(x.snaps, w.Seq)
		delete(x.trees, w.Seq)
	}
}

// right: is it the answer to work, which is done by now?
func (x *truth) right(w repo.Work, a repo.Answer) bool {
	want := repo.Answer{}
	switch w.What {
	case repo.Backup:
		want.Seq = x.records
	case repo.List:
		got := slices.Clone(a.Snaps)
		for i := range got {
			got[i].Root = api.Id{}
		}
		a.Snaps = nil
		if !slices.EqualFunc(got, slices.Sorted(maps.Keys(x.snaps)), func(s api.Snap, seq int) bool { return s == x.snaps[seq] }) {
			return false
		}
	case repo.Restore:
		if !sorted(a.Items, x.trees[w.Seq]) {
			return false
		}
		a.Items = nil
	}
	return a.Seq == want.Seq && len(a.Snaps)+len(a.Items)+len(a.Lost) == 0
}

// any: work by chance, sometimes such as can't be.
func (x *truth) any(chance *rand.Rand) repo.Work {
	w := repo.Work{What: 1 + chance.Intn(6), Note: fmt.Sprint("n", chance.Intn(1000)), Items: chancy(chance, 3)}
	if chance.Intn(3) == 0 {
		w.What = repo.Backup
	}
	w.Seq = chance.Intn(x.records+3) - 1
	if l := slices.Sorted(maps.Keys(x.snaps)); len(l) > 0 && chance.Intn(3) > 0 {
		w.Seq = l[chance.Intn(len(l))]
	}
	if chance.Intn(15) == 0 {
		w.Items = append(w.Items, file("", ""))
	}
	if chance.Intn(15) == 0 {
		w.Note = string(make([]byte, 1001))
	}
	return w
}

// P21.1: scripts of one client, by one hand or by some, one behind the other: all answers are those of a list of trees; or ErrFull, where there is little room:
// then nothing is changed.
func TestScripts(t *testing.T) {
	full := map[int]int{}
	for seed := range int64(60) {
		chance := rand.New(rand.NewSource(seed))
		p := newPlace(t, room)
		if seed%2 == 1 {
			p = newPlace(t, 1500+chance.Intn(20000))
		}
		c := config()
		c.Target = []int{1, 300, 2000, 800000}[chance.Intn(4)]
		r, e := repo.Create(p.site("c"), c)
		checkErrno(t, "Create", e, api.OK)
		x := newTruth()
		for n := range 80 {
			what := fmt.Sprint(seed, " ", n)
			p.clock.Tick(chance.Intn(2000))
			if chance.Intn(8) == 0 {
				c.Target = 1 + chance.Intn(1000)
				r, e = repo.Open(p.site("o"), c)
				checkErrno(t, what, e, api.OK)
			}
			w := x.any(chance)
			was, want := p.objects(), x.want(w)
			a, e := r.Do(w)
			if e == api.ErrFull && seed%2 == 1 && w.What != repo.List && want != api.ErrInvalid && want != api.ErrForm {
				full[w.What]++
				p.checkObjects(what, was)
				if !isEmpty(a) {
					t.Error(what, a)
				}
				continue
			}
			checkErrno(t, what, e, want)
			if e != api.OK {
				p.checkObjects(what, was)
				continue
			}
			x.done(w, p.clock.Now())
			if !x.right(w, a) {
				t.Fatalf("%s: work %d: %v", what, w.What, a)
			}
			if w.What == repo.Prune {
				p.checkPruned(what, r)
			}
		}
		checkSnapsByRoom(t, p, r, x)
	}
	for _, what := range []int{repo.Backup, repo.Forget, repo.Prune} {
		if full[what] == 0 {
			t.Error("there was room for each", what)
		}
	}
}

// checkSnapsByRoom: all snapshots are there; where there is no room, the hand can't take a lock, so they are asked of a clone.
func checkSnapsByRoom(t *testing.T, p *place, r *repo.Repo, x *truth) {
	t.Helper()
	checkSnaps(t, "end", p.clone().open("o", 1), x.trees)
	checkList(t, "end", r, slices.Sorted(maps.Keys(x.trees))...)
}

// P21.1: of a Backup that has no room: in its first pack, in the last, in the index, in the record: nothing is changed, whatever was published ahead.
func TestEachRoom(t *testing.T) {
	items := many(0, 12)
	size := 0
	for room := 0; ; room += 7 {
		p := newPlace(t, size+room)
		if room == 0 {
			p = newPlace(t, 1<<20)
		}
		c := config()
		c.Target = 100
		r, e := repo.Create(p.site("c"), c)
		checkErrno(t, "Create", e, api.OK)
		if room == 0 {
			size = p.store.Used()
			continue
		}
		was := p.objects()
		a, e := r.Do(repo.Work{What: repo.Backup, Items: items})
		if e == api.OK {
			checkErrno(t, "Check", func() api.Errno { _, e := r.Do(repo.Work{What: repo.List}); return e }(), api.OK)
			checkSnaps(t, "room", p.clone().open("o", 1), map[int][]api.Item{1: items})
			if a.Seq != 1 || room < 3000 {
				t.Error(a, room)
			}
			break
		}
		checkErrno(t, fmt.Sprint(room), e, api.ErrFull)
		p.checkObjects(fmt.Sprint(room), was)
		checkList(t, fmt.Sprint(room), r)
	}
}

// P21.1: of a Prune that has no room: nothing is changed.
func TestEachRoomOfPrune(t *testing.T) {
	p, r := created(t, many(0, 12), many(6, 12), many(3, 5))
	do(t, r, repo.Work{What: repo.Forget, Seq: 1})
	objects := p.objects()
	for room, step := p.store.Used(), 0; ; step++ {
		q := newPlace(t, room+11*step)
		for name, b := range objects {
			q.forge(name, b)
		}
		q.cell.Raise(4)
		r := q.open("q", 2)
		a, e := r.Do(repo.Work{What: repo.Prune})
		if e == api.OK {
			q.checkPruned("room", r)
			if !isEmpty(a) || step < 50 {
				t.Error(a, step)
			}
			break
		}
		checkErrno(t, fmt.Sprint(step), e, api.ErrFull)
		q.checkObjects(fmt.Sprint(step), objects)
	}
}

// P21.1: the same where the store has too many objects.
func TestManyObjects(t *testing.T) {
	for left := range 12 {
		p, r := created(t, trees()[0], trees()[1])
		do(t, r, repo.Work{What: repo.Forget, Seq: 1})
		for i := 0; len(p.names("")) < api.MaxStore-left; i++ {
			p.forge(fmt.Sprint("other/", i), "")
		}
		was := p.objects()
		for _, w := range []repo.Work{{What: repo.Backup, Items: many(0, 30)}, {What: repo.Prune}, {What: repo.Forget, Seq: 2}} {
			q := p.clone()
			r := q.open("o", 2)
			a, e := r.Do(w)
			if e == api.OK {
				continue
			}
			checkErrno(t, fmt.Sprint(left, w.What), e, api.ErrFull)
			q.checkObjects(fmt.Sprint(left, w.What), was)
			if !isEmpty(a) || left > 10 {
				t.Error(left, a)
			}
		}
	}
}

// P21.4: a tree that was saved already brings no new blob: no pack, no index; by whichever client, with whichever note.
func TestSavedAlready(t *testing.T) {
	p, r := created(t, trees()...)
	was := p.objects()
	o := p.open("o", 3)
	for i := range 8 {
		r, what := []*repo.Repo{r, o}[i%2], fmt.Sprint(i)
		p.clock.Tick(100)
		backup(t, r, trees()[i/2], 5+i)
		for _, name := range p.names("") {
			if _, ok := was[name]; !ok && name != fmt.Sprintf("s/%08d", 5+i) {
				t.Error(what, name)
			}
		}
		was = p.objects()
	}
	// Nor behind a Prune, if it is needed still; else it brings all of its own anew.
	p.pruned("all", r)
	for seq := 1; seq <= 12; seq++ {
		if seq%4 == 1 || seq == 5 || seq == 6 { // all of the first tree
			do(t, r, repo.Work{What: repo.Forget, Seq: seq})
		}
	}
	packs := p.names("p/")
	backup(t, r, trees()[0], 17)
	if !slices.Equal(p.names("p/"), packs) {
		t.Error("new packs of what is there still")
	}
	do(t, r, repo.Work{What: repo.Forget, Seq: 17})
	p.pruned("some", r)
	n := len(p.blobs())
	backup(t, r, trees()[0], 19)
	if len(p.blobs()) <= n {
		t.Error("no new blobs")
	}
	checkRestore(t, "anew", r, 19, trees()[0])
}

// P21.4: whatever was forgotten: behind a Prune just what is needed is there, once each; another one changes nothing but its lock.
func TestPruned(t *testing.T) {
	for forgotten := range 16 {
		p, r := created(t, trees()...)
		// Another one saved what is there already, without knowing.
		o := p.open("o", 3)
		want := map[int][]api.Item{}
		for i, items := range trees() {
			if forgotten>>i&1 == 1 {
				do(t, o, repo.Work{What: repo.Forget, Seq: i + 1})
			} else {
				want[i+1] = items
			}
		}
		p.forge("t/draft", "draft")
		p.forge("p/junk", "junk")
		p.forge("s/junk", "junk")
		p.forge("other", "other")
		what := fmt.Sprint(forgotten)
		p.pruned(what, r)
		was := p.objects()
		p.pruned(what+", again", o)
		p.checkObjects(what+", again", was)
		if was["other"] != "other" {
			t.Error(what, "another's object is gone")
		}
		checkSnaps(t, what, r, want)
	}
}

// P21.5: each work ends within 10000 steps, with many objects and many items.
func TestSteps(t *testing.T) {
	p := newPlace(t, room)
	c := config()
	c.Target = 1
	r, e := repo.Create(p.site("c"), c)
	checkErrno(t, "Create", e, api.OK)
	l := many(0, 900)
	l = append(l, dir("d", many(2000, 99)...))
	for i, w := range []repo.Work{
		{What: repo.Backup, Items: l}, {What: repo.Backup, Items: l[:500]}, {What: repo.List}, {What: repo.Restore, Seq: 1}, {What: repo.Check},
		{What: repo.Forget, Seq: 1}, {What: repo.Prune}, {What: repo.Prune}, {What: repo.Restore, Seq: 1},
	} {
		begin(t, r, w)
		n := 1
		for {
			if _, last, e := r.Step(); last {
				want := api.OK
				if i == 8 {
					want = api.ErrMiss
				}
				checkErrno(t, fmt.Sprint(i), e, want)
				break
			}
			n++
		}
		if n > 10000 {
			t.Error(i, n)
		}
	}
	checkRestore(t, "end", r, 2, l[:500])
}
