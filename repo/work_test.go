package repo_test

import (
	"fmt"
	"math"
	"slices"
	"strings"
	"testing"

	"hypogeum/api"
	"hypogeum/cell"
	"hypogeum/index"
	"hypogeum/key"
	"hypogeum/log"
	"hypogeum/pack"
	"hypogeum/repo"
)

// Backup and List: numbers are the records', times the clock's; notes, and the trees' names, by which alike ones are alike.
func TestBackupAndList(t *testing.T) {
	p, r := created(t, trees()...)
	do(t, r, repo.Work{What: repo.Forget, Seq: 2}) // record 5
	p.clock.Tick(1000)
	backup(t, r, []api.Item{trees()[0][2], trees()[0][0], trees()[0][1]}, 6)
	backup(t, r, trees()[1], 7)
	do(t, r, repo.Work{What: repo.Forget, Seq: 7}) // record 8
	a := do(t, r, repo.Work{What: repo.List})
	if a.Seq != 0 || a.Items != nil || a.Lost != nil || !slices.Equal(numbers(a.Snaps), []int{1, 3, 4, 6}) {
		t.Fatal(a)
	}
	s, snaps, e := r.Saver()
	if e != api.OK || !slices.Equal(snaps, a.Snaps) {
		t.Error("Saver", snaps, e)
	}
	want := map[int][]api.Item{1: trees()[0], 3: trees()[2], 4: trees()[3], 6: trees()[0]}
	for _, x := range a.Snaps {
		time := 10 * x.Seq
		if x.Seq == 6 {
			time = 1040
		}
		if x.Time != time || x.Note != note(x.Seq) {
			t.Error(x)
		}
		root, e := s.Save(want[x.Seq]...)
		if e != api.OK || root != x.Root {
			t.Error("Root", x.Seq, e)
		}
	}
	checkSnaps(t, "all", r, want)
	checkSnaps(t, "another's", p.open("o", 3), want)
}

// What a record says of Forget: its time.
func TestForgetsRecord(t *testing.T) {
	p, r := created(t, trees()[:2]...)
	p.clock.Tick(5)
	if a := do(t, r, repo.Work{What: repo.Forget, Seq: 1, Items: trees()[0], Note: "n"}); !isEmpty(a) {
		t.Error(a)
	}
	l, e := log.Open(p.store, pen(p), p.cell)
	if e != api.OK || len(l.Records()) != 3 || l.Records()[2] != (log.Record{Kind: log.Forgot, Snap: api.Snap{Seq: 1, Time: 25}}) {
		t.Error(l.Records(), e)
	}
}

// Restore and Forget: ErrMiss of what isn't there, or was forgotten, or is the number of another record; nothing is changed.
func TestMiss(t *testing.T) {
	p, r := created(t, trees()...)
	do(t, r, repo.Work{What: repo.Forget, Seq: 2})
	was := p.objects()
	for _, seq := range []int{0, -1, 2, 5, 6, math.MinInt, math.MaxInt, 1<<32 + 1} {
		checkNot(t, fmt.Sprint(seq), r, repo.Work{What: repo.Restore, Seq: seq}, api.ErrMiss)
		checkNot(t, fmt.Sprint(seq), r, repo.Work{What: repo.Forget, Seq: seq}, api.ErrMiss)
	}
	p.checkObjects("miss", was)
}

// MaxSnaps snapshots, and not one more: ErrFull, and nothing is changed; those that are forgotten don't count.
func TestMostSnaps(t *testing.T) {
	p, r := created(t)
	for i := range api.MaxSnaps {
		backup(t, r, trees()[i%3], i+1)
	}
	was := p.objects()
	more := repo.Work{What: repo.Backup, Items: []api.Item{file("new", "new")}}
	steps := p.store.Steps()
	checkNot(t, "one more", r, more, api.ErrFull)
	checkNot(t, "one more, that was saved", r, repo.Work{What: repo.Backup, Items: trees()[0]}, api.ErrFull)
	p.checkObjects("one more", was)
	if n := p.store.Steps() - steps; n != 8 {
		t.Error(n, "changes, for two locks")
	}
	do(t, r, repo.Work{What: repo.Forget, Seq: 17})
	backup(t, r, more.Items, api.MaxSnaps+2)
	checkNot(t, "one more", r, more, api.ErrFull)
	if l := list(t, r); len(l) != api.MaxSnaps || slices.Contains(l, 17) {
		t.Error(l)
	}
}

// checkRefused: a Backup that answers this error, and behind which all is as it was.
func checkRefused(t *testing.T, what string, p *place, r *repo.Repo, items []api.Item, want api.Errno) {
	t.Helper()
	was := p.objects()
	checkNot(t, what, r, repo.Work{What: repo.Backup, Items: items}, want)
	p.checkObjects(what, was)
}

// ErrBig: a directory has too many bytes; an index has.
func TestBig(t *testing.T) {
	p, r := created(t, trees()[0])
	var long []api.Item
	for i := range 600 {
		long = append(long, file(fmt.Sprintf("%0255d", i), fmt.Sprint(i)))
	}
	checkRefused(t, "names", p, r, long, api.ErrBig)
	checkRefused(t, "names below", p, r, []api.Item{file("a", string(some(9, 2000))), dir("d", long...), file("z", "z")}, api.ErrBig)
	backup(t, r, long[:400], 2)
	do(t, r, repo.Work{What: repo.Forget, Seq: 2})

	c := config()
	c.Rule.Most, c.Target = 64, 800000
	r, e := repo.Open(p.site("great"), c)
	checkErrno(t, "Open", e, api.OK)
	var pieces []api.Item
	for i := range 2 {
		pieces = append(pieces, file(fmt.Sprint(i), string(some(int64(20+i), api.MaxFile))))
	}
	checkRefused(t, "pieces", p, r, pieces, api.ErrBig)
	checkSnaps(t, "behind", r, map[int][]api.Item{1: trees()[0]})
}

// many: so many small files.
func many(from, n int) []api.Item {
	var l []api.Item
	for i := from; i < from+n; i++ {
		l = append(l, file(fmt.Sprintf("%06d", i), fmt.Sprint("file ", i)))
	}
	return l
}

// P21.1: more packs than an index may have, as the target is small: it is saved all the same; so is it pruned.
func TestManyPacks(t *testing.T) {
	p := newPlace(t, room)
	c := config()
	c.Target = 1
	r, e := repo.Create(p.site("c"), c)
	checkErrno(t, "Create", e, api.OK)
	backup(t, r, many(0, 999), 1) // with its directory: just as many as an index may have
	p.checkPlaces("999", map[string]int{"p/": 1000, "x/": 1})
	backup(t, r, many(2000, 300), 2)
	p.checkPlaces("300", map[string]int{"p/": 1301, "x/": 2})
	p.pruned("1301", r)
	if n := len(p.names("p/")); n > 1000 {
		t.Error(n, "packs")
	}
	checkSnaps(t, "pruned", r, map[int][]api.Item{1: many(0, 999), 2: many(2000, 300)})

	backup(t, r, many(5000, 1000), 3)
	if n := len(p.names("p/")); n > 10 {
		t.Error(n, "packs")
	}
	checkSnaps(t, "1000", r, map[int][]api.Item{1: many(0, 999), 2: many(2000, 300), 3: many(5000, 1000)})
	p.checkPlaces("1000", map[string]int{"t/": 0, "x/": 2})
	p.pruned("1000", r)
	was := p.objects()
	do(t, r, repo.Work{What: repo.Prune})
	p.checkObjects("again", was)
}

// ErrBig: an index may not name so many elder ones.
func TestManyIndexes(t *testing.T) {
	p, r := created(t, trees()[0])
	x := key.Pen{Ring: p.ring("a word"), Tape: cell.Wind([]byte("indexes"))}
	for i := range 1000 {
		if i == 999 { // with its own: just as many as an index may name
			q := p.clone()
			q.pruned("1000", q.open("o", 3))
		}
		name, b, e := index.Write(x, index.File{})
		checkErrno(t, "Write", e, api.OK)
		p.forge(name, string(b))
	}
	was := p.objects()
	checkNot(t, "1001", r, repo.Work{What: repo.Prune}, api.ErrBig)
	p.checkObjects("1001", was)
	backup(t, r, trees()[1], 2)
	checkSnaps(t, "1001", r, map[int][]api.Item{1: trees()[0], 2: trees()[1]})
}

// packWith: the pack that tells the blob; the place has it in no other one.
func (p *place) packWith(id api.Id) string {
	p.t.Helper()
	for _, name := range p.names("p/") {
		b, _ := p.store.Get(name)
		l, e := pack.Entries(p.ring("a word"), b)
		checkErrno(p.t, "Entries", e, api.OK)
		if slices.ContainsFunc(l, func(x pack.Entry) bool { return x.Id == id }) {
			return name
		}
	}
	p.t.Fatal("no pack")
	return ""
}

// apart: a place in which each blob has a pack of its own, with one snapshot; its pieces' names, rising, and its directories'.
func apart(t *testing.T, items []api.Item) (p *place, r *repo.Repo, pieces, dirs []api.Id) {
	t.Helper()
	p = newPlace(t, room)
	c := config()
	c.Target = 1
	r, e := repo.Create(p.site("c"), c)
	checkErrno(t, "Create", e, api.OK)
	backup(t, r, items, 1)
	s, _, e := r.Saver()
	checkErrno(t, "Saver", e, api.OK)
	for _, id := range s.Ids() {
		if x, _ := s.Find(id); x.Kind == 1 {
			pieces = append(pieces, id)
		} else {
			dirs = append(dirs, id)
		}
	}
	return p, r, pieces, dirs
}

// Check: those that aren't told, rising; of what no snapshot needs none.
func TestCheckLost(t *testing.T) {
	p, r, pieces, dirs := apart(t, trees()[0])
	backup(t, r, trees()[2], 2)
	checkWhole(t, "all", r)
	if !slices.IsSortedFunc(pieces, compare) || len(pieces) < 4 || len(dirs) != 2 {
		t.Fatal(len(pieces), len(dirs))
	}
	checkLost := func(want ...api.Id) {
		t.Helper()
		for _, r := range []*repo.Repo{r, p.open("o", 5)} {
			a, e := r.Do(repo.Work{What: repo.Check})
			if e != api.OK || !slices.Equal(a.Lost, want) || a.Seq != 0 || len(a.Snaps)+len(a.Items) != 0 {
				t.Errorf("Check: %d, %d, not %d", len(a.Lost), e, len(want))
			}
		}
	}
	p.steal(p.packWith(pieces[2]))
	checkLost(pieces[2])
	p.forge(p.packWith(pieces[0]), "junk")
	// packWith reads packs, so from here on they are looked for among those that are whole.
	whole := p.store.Photo()
	for _, name := range p.names("p/") {
		if b, _ := p.store.Get(name); string(b) == "junk" {
			p.steal(name)
		}
	}
	checkLost(pieces[0], pieces[2])
	p.store.Restore(whole)
	checkLost(pieces[0], pieces[2])
	checkNot(t, "lost", r, repo.Work{What: repo.Restore, Seq: 1}, api.ErrCorrupt)
	checkNot(t, "lost", r, repo.Work{What: repo.Prune}, api.ErrCorrupt)
	checkRestore(t, "not lost", r, 2, trees()[2])
	do(t, r, repo.Work{What: repo.Forget, Seq: 1})
	checkLost()
	p.pruned("forgotten", r)
	p.checkPlaces("forgotten", map[string]int{"p/": 1})
}

// Check: of a directory that isn't told nobody knows what it needs: ErrCorrupt.
func TestCheckCorrupt(t *testing.T) {
	for i := range 2 {
		p, r, _, dirs := apart(t, trees()[0])
		p.steal(p.packWith(dirs[i]))
		for _, what := range []int{repo.Check, repo.Restore, repo.Prune} {
			checkNot(t, fmt.Sprint(i), r, repo.Work{What: what, Seq: 1}, api.ErrCorrupt)
		}
		checkList(t, "all the same", r, 1)
	}
}

// A record that doesn't count lies where the next one shall be: it goes, and so do others that don't count; of Backup and of Forget.
func TestRecordsInTheWay(t *testing.T) {
	for _, junk := range []string{"", "junk", "own"} {
		p, r := created(t, trees()[:2]...)
		if junk == "own" {
			b, _ := p.store.Get("s/00000002")
			junk = string(b)
		}
		lay := func() {
			n, _ := p.cell.Read()
			for i := range 3 {
				p.forge(fmt.Sprintf("s/%08d", n+1+i), junk)
			}
			p.forge("s/x", junk)
		}
		lay()
		checkSnaps(t, "in the way", r, map[int][]api.Item{1: trees()[0], 2: trees()[1]})
		backup(t, r, trees()[2], 3)
		p.checkPlaces("Backup", map[string]int{"s/": 3})
		lay()
		do(t, r, repo.Work{What: repo.Forget, Seq: 1})
		p.checkPlaces("Forget", map[string]int{"s/": 4})
		lay()
		checkNot(t, "forgotten", r, repo.Work{What: repo.Forget, Seq: 1}, api.ErrMiss)
		p.pruned("Prune", r)
		checkSnaps(t, "behind", p.open("o", 1), map[int][]api.Item{2: trees()[1], 3: trees()[2]})
	}
}

// Saver: a saver of the vault as it is now, by the rule; the snapshots, as List; the errors of both.
func TestSaver(t *testing.T) {
	p, r := created(t, trees()[:2]...)
	steps := p.store.Steps()
	s, snaps, e := r.Saver()
	if e != api.OK || s.Rule != config().Rule || len(snaps) != 2 || p.store.Steps() != steps {
		t.Fatal(snaps, e)
	}
	for i, x := range snaps {
		if got, e := s.Load(x.Root); e != api.OK || !sorted(got, trees()[i]) {
			t.Error(i, e)
		}
	}
	// While work is under way, too; what others did since is told.
	o := p.open("o", 2)
	begin(t, r, repo.Work{What: repo.Check})
	backup(t, o, trees()[3], 3)
	do(t, o, repo.Work{What: repo.Forget, Seq: 1})
	if s, snaps, e := r.Saver(); e != api.OK || !slices.Equal(numbers(snaps), []int{2, 3}) {
		t.Error(snaps, e)
	} else if got, e := s.Load(snaps[1].Root); e != api.OK || !sorted(got, trees()[3]) {
		t.Error(e)
	}
	checkNone := func(want api.Errno) {
		t.Helper()
		if s, l, e := r.Saver(); s.Vault != nil || s.Rule != (repo.Config{}).Rule || l != nil || e != want {
			t.Error("Saver", l, e)
		}
	}
	p.forge("x/junk", "junk")
	checkNone(api.ErrCorrupt)
	p.steal("x/junk", "s/00000002")
	checkNone(api.ErrCorrupt)
	p.store.Arm(0)
	p.store.Nudge()
	checkNone(api.ErrDown)
}

// The vault's target: how great packs are.
func TestTarget(t *testing.T) {
	for target, want := range map[int]int{1: 12, 800000: 1} {
		p := newPlace(t, room)
		c := config()
		c.Target = target
		r, e := repo.Create(p.site("c"), c)
		checkErrno(t, "Create", e, api.OK)
		backup(t, r, many(0, 11), 1)
		p.checkPlaces("target", map[string]int{"p/": want, "x/": 1})
	}
}

// The objects are those of the layers below, by the word's keys.
func TestObjects(t *testing.T) {
	p, r := created(t, trees()[0])
	backup(t, r, trees()[1], 2)
	for name, b := range p.objects() {
		switch {
		case name == "config":
		case strings.HasPrefix(name, "x/"):
			if _, e := index.Read(p.ring("a word"), []byte(b)); e != api.OK || name != "x/"+digits([]byte(b)) {
				t.Error(name, e)
			}
		case strings.HasPrefix(name, "p/"):
		case name == "s/00000001", name == "s/00000002":
			if _, e := p.ring("a word").Open(0x73, name, []byte(b)); e != api.OK {
				t.Error(name, e)
			}
		default:
			t.Error(name)
		}
	}
	if len(p.blobs()) == 0 {
		t.Error("no blobs")
	}
}
