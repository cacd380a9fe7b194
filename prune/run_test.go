package prune_test

import (
	"fmt"
	"slices"
	"testing"

	"hypogeum/api"
	"hypogeum/cell"
	"hypogeum/index"
	"hypogeum/node"
	"hypogeum/pack"
	"hypogeum/prune"
	"hypogeum/save"
	"hypogeum/vault"
)

// P20.1, P20.2, P20.4: Runs in stores by chance: the plan, and each object of the store to its last byte, by the document's words; a second one changes nothing.
func TestRun(t *testing.T) {
	for seed := range int64(40) {
		p := newPlace(t, seed)
		if seed%2 == 0 {
			p.litter()
		}
		others := p.others()
		for round := range int64(3) {
			what := fmt.Sprint(seed, round)
			keep := p.half(seed + 100*round)
			s := p.saver(what, 1+int(seed)*100)
			need := needed(t, s, p.some(keep...)...)
			want := foretold(t, p.store, s, what, p.some(keep...)...)
			run(t, what, s, p.some(keep...)...)
			checkObjects(t, what, p.store, want)
			checkPruned(t, what, p.store, need)
			for name, b := range others {
				if want[name] != b {
					t.Error(what, name)
				}
			}
			p.checkLoads(what, s, keep...)
			p.checkAgain(what, s, keep...)
			p.checkAgain(what, p.saver("again", 1), keep...)
			p.roots, p.trees = p.some(keep...), pick(p.trees, keep)
			// What comes behind is saved beside it.
			s = p.saver(what+", more", 300)
			p.save(s, chancyOf(seed+round)...)
			checkErrno(t, "Commit", s.Commit(), api.OK)
		}
	}
}

// checkAgain: P20.4: another Run of the same roots changes nothing.
func (p *place) checkAgain(what string, s save.Saver, keep ...int) {
	p.t.Helper()
	was, steps := objects(p.t, p.store), p.store.Steps()
	plan := run(p.t, what, s, p.some(keep...)...)
	if len(plan.Move) != 0 || len(plan.Gone) != 0 || !alikePacks(plan.Stay, s.Packs()) || p.store.Steps() != steps {
		p.t.Errorf("%s, again: %d are moved, %d gone, %d changes", what, len(plan.Move), len(plan.Gone), p.store.Steps()-steps)
	}
	checkObjects(p.t, what+", again", p.store, was)
}

// P20.1: a name of a root that comes twice, and roots in another order, are nothing.
func TestRunOfRoots(t *testing.T) {
	p := newPlace(t, 7)
	keep := p.half(3)
	roots := p.some(keep...)
	s := p.saver("r", 300)
	want := foretold(t, p.store, s, "r", roots...)
	twice := append(slices.Clone(roots), roots...)
	slices.Reverse(twice)
	run(t, "twice", s, twice...)
	checkObjects(t, "twice", p.store, want)
}

// P20.2: no roots: an index of none is all that stays; also in a store that has nothing.
func TestRunOfNone(t *testing.T) {
	for _, empty := range []bool{true, false} {
		p := &place{t: t, store: newShelf(t, room)}
		if !empty {
			p = newPlace(t, 4)
			p.litter()
		}
		others := p.others()
		s := p.saver("r", 300)
		was := s.Packs()
		plan := run(t, "none", s)
		if len(plan.Stay) != 0 || len(plan.Move) != 0 || len(plan.Gone) != len(was) {
			t.Error(plan)
		}
		checkPruned(t, "none", p.store, map[api.Id]int{})
		if l := names(t, p.store, ""); len(l) != len(others)+1 {
			t.Error(l)
		}
		p.checkAgain("none", s)
		p.checkAgain("none", p.saver("u", 300))
	}
}

// P20.1: nothing is moved, all packs stay, there is one index: what is left by others goes all the same.
func TestRunOfAll(t *testing.T) {
	p := newPlace(t, 5)
	s := p.saver("r", 300)
	run(t, "first", s, p.roots...)
	was := objects(t, p.store)
	p.litter()
	plan := run(t, "second", s, p.roots...)
	if len(plan.Gone) != 0 || len(plan.Move) != 0 || len(plan.Stay) == 0 {
		t.Error(plan)
	}
	checkObjects(t, "second", p.store, was)
	// All packs stay, but there are two indexes: they become one.
	s = p.saver("more", 300)
	p.save(s, api.Item{Name: "new", Data: "of these bytes alone"})
	checkErrno(t, "Commit", s.Commit(), api.OK)
	need := needed(t, s, p.roots...)
	plan = run(t, "third", s, p.roots...)
	if len(names(t, p.store, "x/")) != 1 || len(plan.Gone) != 0 || len(plan.Stay) < 2 {
		t.Error(plan)
	}
	checkPruned(t, "third", p.store, need)
	p.checkAgain("third", s, p.all()...)
}

// P20.1: as many blobs in each new pack as there may be, in the order of Move, whatever the vault's target is.
func TestRunOfMany(t *testing.T) {
	p := &place{t: t, store: newShelf(t, room)}
	s := p.saver("t", 100) // two small blobs a pack
	var l []node.Node
	for i := range 1050 {
		id := put(t, s, 1, fmt.Append(nil, "needed ", i))
		put(t, s, 1, fmt.Append(nil, "not needed ", i))
		l = append(l, node.Node{Name: fmt.Sprintf("%04d", i), Size: 9, Parts: []api.Id{id}})
		if i%200 == 199 {
			checkErrno(t, "Commit", s.Commit(), api.OK)
		}
	}
	for i := range 8 {
		id := put(t, s, 1, some(int64(i), 1<<17))
		l = append(l, node.Node{Name: fmt.Sprint("b", i), Size: 9, Parts: []api.Id{id}})
	}
	root := putNodes(t, s, l...)
	put(t, s, 1, []byte("not needed"))
	checkErrno(t, "Commit", s.Commit(), api.OK)
	s = p.saver("r", 1)
	want := foretold(t, p.store, s, "r", root)
	plan := run(t, "many", s, root)
	checkObjects(t, "many", p.store, want)
	checkPruned(t, "many", p.store, needed(t, s, root))
	if len(plan.Move) < 1000 || len(s.Packs())-len(plan.Stay) < 2 {
		t.Error(len(plan.Move), "are moved, into", len(s.Packs())-len(plan.Stay), "packs")
	}
}

// P20.2: what is loose is kept if it is needed; what waits and isn't needed is given up.
func TestRunOfLoose(t *testing.T) {
	p := newPlace(t, 6)
	s := p.saver("r", 800000)
	id := p.save(s, api.Item{Name: "loose", Data: "some bytes"})
	checkErrno(t, "Flush", s.Flush(), api.OK)
	waits := put(t, s, 1, []byte("waits"))
	need := needed(t, s, id)
	run(t, "loose", s, id)
	checkPruned(t, "loose", p.store, need)
	last := len(p.roots) - 1
	p.checkLoads("loose", s, last)
	p.checkLoads("loose, anew", p.saver("u", 300), last)
	if _, e := s.Get(1, waits); e != api.ErrMiss {
		t.Error("what waited:", e)
	}
	checkErrno(t, "Commit", s.Commit(), api.OK)
	checkPruned(t, "committed", p.store, need)
}

// P20.1: Run's errors that come ahead of any change.
func TestRunErrors(t *testing.T) {
	p := newPlace(t, 8)
	p.litter()
	s := p.saver("r", 300)
	good := p.roots[0]
	checkNoRun(t, "no vault", save.Saver{}, api.ErrArg)
	checkNoRun(t, "no vault", save.Saver{Rule: rule()}, api.ErrArg, good)
	bare := save.Saver{Vault: new(vault.Vault)}
	checkNoRun(t, "bare", bare, api.ErrArg)
	checkNoRun(t, "bare", bare, api.ErrCorrupt, good)
	was := objects(t, p.store)
	checkNoRun(t, "no such tree", s, api.ErrCorrupt, api.Id{1})
	checkNoRun(t, "no such tree, behind", s, api.ErrCorrupt, good, api.Id{1})
	checkNoRun(t, "a piece", s, api.ErrCorrupt, aPiece(t, s, p.roots...))
	checkObjects(t, "refused", p.store, was)

	// A piece that no pack has; one that is a directory.
	lost := putNodes(t, s, node.Node{Name: "f", Size: 1, Parts: []api.Id{{7}}})
	wrong := putNodes(t, s, node.Node{Name: "f", Size: 1, Parts: []api.Id{good}})
	below := putNodes(t, s, node.Node{Name: "d", Kind: api.Dir, Tree: lost})
	checkErrno(t, "Commit", s.Commit(), api.OK)
	was = objects(t, p.store)
	for _, id := range []api.Id{lost, wrong, below} {
		checkNoRun(t, "missing", s, api.ErrCorrupt, id)
		checkNoRun(t, "missing, with others", s, api.ErrCorrupt, append(p.some(1, 2), id)...)
	}
	// What waits is in no pack yet.
	waits := putNodes(t, s)
	if x, _ := s.Find(waits); x.Pack != "" {
		t.Fatal("it doesn't wait")
	}
	checkNoRun(t, "waits", s, api.ErrCorrupt, waits)
	checkObjects(t, "missing", p.store, was)
	if again := putNodes(t, s); again != waits {
		t.Error("what waited is given up")
	}

	p.store.Arm(0)
	p.store.Nudge()
	checkNoRun(t, "off", s, api.ErrDown, good)
	checkNoRun(t, "off", s, api.ErrDown)
	p.store.Crash()
	checkObjects(t, "off", p.store, was)
}

// aPiece: the name of one of the pieces that these trees need.
func aPiece(t *testing.T, s save.Saver, roots ...api.Id) api.Id {
	t.Helper()
	for id, kind := range needed(t, s, roots...) {
		if kind == 1 {
			return id
		}
	}
	t.Fatal("no pieces")
	return api.Id{}
}

// P20.1: a pack that somebody changed or took away: told, if one of its directories is needed, or one of its blobs is moved; nothing is changed then.
// If nothing of it is needed it is nothing; pieces of what stays aren't read.
func TestRunOfChanged(t *testing.T) {
	for seed := range int64(5) {
		p := newPlace(t, seed)
		keep := p.half(seed)
		roots := p.some(keep...)
		s := p.saver("r", 300)
		need := needed(t, s, roots...)
		plan := planOf(need, s.Packs())
		photo := p.store.Photo()
		for _, x := range s.Packs() {
			told := slices.ContainsFunc(plan.Move, func(m index.Place) bool { return m.Pack == x.Name })
			for _, y := range x.Entries {
				home, _ := s.Find(y.Id)
				told = told || need[y.Id] == 2 && home.Pack == x.Name
			}
			b, _ := p.store.Get(x.Name)
			for i := range 3 {
				switch i {
				case 0:
					p.store.Steal(x.Name)
				case 1:
					forge(t, p.store, x.Name, string(b[:len(b)-1]))
				case 2:
					forge(t, p.store, x.Name, "another")
				}
				was := objects(t, p.store)
				s := p.saver("r", 300)
				if told {
					checkNoRun(t, "changed", s, api.ErrCorrupt, roots...)
					checkObjects(t, "changed", p.store, was)
				} else if _, e := prune.Run(s, roots...); e != api.OK {
					t.Error("not needed, or not read:", e)
				}
				checkErrno(t, "Restore", p.store.Restore(photo), api.OK)
			}
		}
	}
}

// P20.1: no room for the new packs: nothing is changed; none for the index: nothing is lost; with room it comes to its end.
func TestRunWithoutRoom(t *testing.T) {
	p := newPlace(t, 9)
	keep := p.half(9)
	roots := p.some(keep...)
	need := needed(t, p.saver("r", 300), roots...)
	want := foretold(t, p.store, p.saver("r", 300), "r", roots...)
	was, photo := objects(t, p.store), p.store.Photo()
	packs, file := 0, 0 // how many bytes are new
	for name, b := range want {
		if _, there := was[name]; !there && name[0] == 'p' {
			packs += len(b)
		} else if !there {
			file += len(b)
		}
	}
	if packs == 0 || file == 0 {
		t.Fatal("nothing is moved")
	}
	for _, free := range []int{0, 1, packs / 2, packs - 1, packs, packs + file/2, packs + file - 1, packs + file} {
		what := fmt.Sprint(free, " of ", packs, " and ", file)
		store := newShelf(t, p.store.Used()+free)
		checkErrno(t, "Restore", store.Restore(photo), api.OK)
		s := saver(t, store, "r", 300)
		if free == packs+file {
			run(t, what, s, roots...)
			checkObjects(t, what, store, want)
			continue
		}
		checkNoRun(t, what, s, api.ErrFull, roots...)
		if free < packs {
			checkObjects(t, what, store, was)
		}
		place{t, store, p.roots, p.trees}.checkAll(what, keep...)
		greater := newShelf(t, room)
		checkErrno(t, "Restore", greater.Restore(store.Photo()), api.OK)
		run(t, what, saver(t, greater, "u", 300), roots...)
		checkPruned(t, what, greater, need)
	}
}

// checkAll: a vault that is opened anew loads these.
func (p place) checkAll(what string, keep ...int) {
	p.t.Helper()
	p.checkLoads(what, p.saver("all", 300), keep...)
}

// P20.1: where a pack, or the index, is to be published somebody laid an object with other bytes.
func TestRunOfTwins(t *testing.T) {
	p := newPlace(t, 9)
	keep := p.half(9)
	roots := p.some(keep...)
	need := needed(t, p.saver("r", 300), roots...)
	want := foretold(t, p.store, p.saver("r", 300), "r", roots...)
	was, photo := objects(t, p.store), p.store.Photo()
	seen := 0
	for name, b := range want {
		if _, there := was[name]; there {
			continue
		}
		seen++
		s := p.saver("r", 300) // ahead of it: what is no index isn't opened
		forge(t, p.store, name, "other bytes")
		checkNoRun(t, name, s, api.ErrThere, roots...)
		if x, y := s.Twins(); string(x) != b || string(y) != "other bytes" {
			t.Error(name, len(x), len(y))
		}
		if name[0] == 'x' {
			p.store.Steal(name)
		}
		p.checkAll(name, keep...)
		run(t, name, p.saver("u", 300), roots...)
		checkPruned(t, name, p.store, need)
		// With the same bytes it is no twin.
		checkErrno(t, "Restore", p.store.Restore(photo), api.OK)
		s = p.saver("r", 300)
		forge(t, p.store, name, b)
		run(t, name, s, roots...)
		checkObjects(t, name, p.store, want)
		checkErrno(t, "Restore", p.store.Restore(photo), api.OK)
	}
	if seen < 2 {
		t.Error("nothing is moved")
	}
}

// P20.1, rule 5: more packs than an index may have: nothing is changed, no nonce is used up.
func TestRunOfTooManyPacks(t *testing.T) {
	for _, n := range []int{999, 1000} {
		p := &place{t: t, store: newShelf(t, room)}
		s := p.saver("t", 1) // a pack for each blob
		var l []node.Node
		for i := range n - 1 {
			l = append(l, node.Node{Name: fmt.Sprintf("%04d", i), Size: 9, Parts: []api.Id{put(t, s, 1, fmt.Append(nil, i))}})
		}
		root := putNodes(t, s, l...)
		checkErrno(t, "Commit", s.Commit(), api.OK)
		s = p.saver("u", 800000)
		put(t, s, 1, []byte("not needed"))
		dir := putNodes(t, s)
		checkErrno(t, "Commit", s.Commit(), api.OK)
		p.checkRefused(n == 1000, api.ErrForm, root, dir)
	}
}

// checkRefused: a Run by which one pack more would come: it is refused, and has changed nothing; or else it is OK.
func (p *place) checkRefused(refused bool, want api.Errno, roots ...api.Id) {
	p.t.Helper()
	tape := cell.Wind([]byte("r"))
	q := pen("r")
	q.Tape = tape
	v, e := vault.Open(p.store, q, 300)
	checkErrno(p.t, "Open", e, api.OK)
	s := save.Saver{Vault: v, Rule: rule()}
	need, was := needed(p.t, s, roots...), objects(p.t, p.store)
	if !refused {
		run(p.t, "as many as there may be", s, roots...)
		checkPruned(p.t, "as many as there may be", p.store, need)
		return
	}
	checkNoRun(p.t, "too much", s, want, roots...)
	checkObjects(p.t, "too much", p.store, was)
	if tape.Nonce() != cell.Wind([]byte("r")).Nonce() {
		p.t.Error("a nonce was used up")
	}
}

// P20.1, rule 5: more bytes than an index may have: likewise.
func TestRunOfTooManyBlobs(t *testing.T) {
	p := &place{t: t, store: newShelf(t, room)}
	s := p.saver("t", 800000)
	put(t, s, 1, []byte("not needed"))
	var roots []api.Id
	for i := range 8 {
		var parts []api.Id
		for j := range 3700 {
			parts = append(parts, put(t, s, 1, fmt.Append(nil, i, j)))
		}
		roots = append(roots, putNodes(t, s, node.Node{Name: "f", Size: 3700, Parts: parts}))
		checkErrno(t, "Commit", s.Commit(), api.OK)
	}
	if len(s.Files()) != 8 {
		t.Fatal(s.Files())
	}
	p.checkRefused(true, api.ErrBig, roots...)
	p.checkRefused(false, api.OK, roots[:2]...)
}

// P20.1, rule 5: more files than an index may take the place of: likewise.
func TestRunOfTooManyFiles(t *testing.T) {
	for _, n := range []int{999, 1000} {
		p := &place{t: t, store: newShelf(t, room)}
		s := p.saver("t", 800000)
		put(t, s, 1, []byte("not needed"))
		root := putNodes(t, s)
		checkErrno(t, "Commit", s.Commit(), api.OK)
		q := pen("files")
		for range n {
			name, b, e := index.Write(q, index.File{})
			checkErrno(t, "Write", e, api.OK)
			forge(t, p.store, name, string(b))
		}
		p.checkRefused(n == 1000, api.ErrForm, root)
	}
}

// fullFile: a file of these packs, and of others with so many pieces, a thousand each, whose names are counted up.
func fullFile(first []index.Pack, pieces int) index.File {
	f := index.File{Packs: slices.Clone(first)}
	for i, id := range counted(pieces) {
		if i%1000 == 0 {
			f.Packs = append(f.Packs, index.Pack{Name: fmt.Sprintf("p/%040d", i)})
		}
		x := &f.Packs[len(f.Packs)-1]
		x.Entries = append(x.Entries, pack.Entry{Id: id, Kind: 1, Off: 500 * (i % 1000), Len: 500})
	}
	f.Packs = byName(f.Packs)
	return f
}

func counted(n int) []api.Id {
	l := make([]api.Id, n)
	for i := range l {
		l[i] = api.Id{byte(i >> 16), byte(i >> 8), byte(i)}
	}
	return l
}

// fullIndex: the store has directories that need so many pieces, and one index of these, and of packs that have the pieces; how many bytes more the index might have.
func (p *place) fullIndex(pieces int) int {
	p.t.Helper()
	p.store, p.roots = newShelf(p.t, room), nil
	s := p.saver("t", 800000)
	for l := range slices.Chunk(counted(pieces), 4000) {
		p.roots = append(p.roots, putNodes(p.t, s, node.Node{Name: "f", Size: 4000, Parts: l}))
	}
	checkErrno(p.t, "Commit", s.Commit(), api.OK)
	p.store.Steal(s.Files()[0])
	f := fullFile(s.Packs(), pieces)
	name, b, e := index.Write(pen("full"), f)
	checkErrno(p.t, "Write", e, api.OK)
	forge(p.t, p.store, name, string(b))
	return 1<<20 - len(b)
}

// filled: an index that might have so many bytes more at most.
func filled(t *testing.T, most int) *place {
	t.Helper()
	p, pieces := &place{t: t}, 27000
	left := p.fullIndex(pieces)
	for left > most {
		pieces += max((left-most)/38, 1)
		left = p.fullIndex(pieces)
	}
	if left <= most-38 {
		t.Fatal(left, most)
	}
	return p
}

// P20.4: an index that has as many bytes as it may doesn't stand in the way of a Run that publishes none.
func TestRunOfFullIndex(t *testing.T) {
	p := filled(t, 42) // 43 more for the name of an old one
	s := p.saver("r", 300)
	was, steps := objects(t, p.store), p.store.Steps()
	plan := run(t, "full", s, p.roots...)
	checkObjects(t, "full", p.store, was)
	if len(plan.Stay) != len(s.Packs()) || p.store.Steps() != steps {
		t.Error(len(plan.Stay), p.store.Steps()-steps)
	}
}

// P20.1, rule 5: an index that has no more bytes than it may have, but more than an object may.
func TestRunOfTooGreatIndex(t *testing.T) {
	const more = 2*43 + (43 + 1 + 32 + 3) // two old ones; a pack with one blob
	for _, refused := range []bool{false, true} {
		most := more + 37
		if refused {
			most = more - 1
		}
		p := filled(t, most)
		s := p.saver("more", 800000)
		put(t, s, 1, []byte("not needed"))
		root := putNodes(t, s)
		checkErrno(t, "Commit", s.Commit(), api.OK)
		s = p.saver("r", 300)
		roots, was := append(p.roots, root), objects(t, p.store)
		if refused {
			checkNoRun(t, "too great", s, api.ErrBig, roots...)
			checkObjects(t, "too great", p.store, was)
		} else {
			run(t, "as great as it may be", s, roots...)
		}
	}
}

// Rule 4: what is handed in isn't changed; what is answered is new memory.
func TestRunKeepsNothing(t *testing.T) {
	p := newPlace(t, 5)
	roots := append(p.some(p.half(5)...), api.Id{9})
	kept := slices.Clone(roots)
	s := p.saver("r", 300)
	plan := run(t, "Run", s, roots[:len(roots)-1]...)
	if !slices.Equal(roots, kept) {
		t.Error("changed")
	}
	packs := s.Packs()
	for _, x := range plan.Stay {
		clear(x.Entries)
	}
	clear(plan.Stay)
	clear(plan.Move)
	if !alikePacks(s.Packs(), packs) {
		t.Error("shared")
	}
	p.checkAgain("Run", s, p.half(5)...)
}

// P20.1: blobs of the greatest size, of both kinds.
func TestRunOfGreatBlobs(t *testing.T) {
	p := &place{t: t, store: newShelf(t, room)}
	s := p.saver("t", 800000)
	great := put(t, s, 1, some(1, 1<<17))
	var parts []api.Id
	for i := range 4000 {
		parts = append(parts, great)
		if i == 0 {
			put(t, s, 1, []byte("not needed"))
		}
	}
	root := putNodes(t, s, node.Node{Name: "f", Size: 5000, Parts: parts})
	checkErrno(t, "Commit", s.Commit(), api.OK)
	s = p.saver("r", 1)
	want := foretold(t, p.store, s, "r", root)
	plan := run(t, "great", s, root)
	checkObjects(t, "great", p.store, want)
	if len(plan.Move) != 2 || plan.Move[0].Kind != 1 || plan.Move[1].Kind != 2 {
		t.Error(len(plan.Move))
	}
	if b, e := s.Get(1, great); len(b) != 1<<17 || e != api.OK {
		t.Error(len(b), e)
	}
}
