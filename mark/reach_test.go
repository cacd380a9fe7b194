package mark_test

import (
	"fmt"
	"maps"
	"slices"
	"testing"

	"hypogeum/api"
	"hypogeum/mark"
	"hypogeum/node"
	"hypogeum/save"
	"hypogeum/tree"
	"hypogeum/vault"
)

// P19.1: the document's example.
func TestExample(t *testing.T) {
	s := saver(t, newShelf(t), "t", 300)
	checkSet(t, "no roots", reached(t, s), words{})
	root := saved(t, s, dir("d"))
	checkSet(t, "an empty directory", reached(t, s, root), words{root: 2, idOf(2, []byte{0x48, 0x59, 0x6e, 0}): 2})
}

// P19.1: what each tree needs, and several together, in any order, by this vault and by another one.
func TestReach(t *testing.T) {
	store := newShelf(t)
	s := saver(t, store, "t", 300)
	var roots []api.Id
	all := words{}
	for i, l := range trees() {
		root, w := saved(t, s, l...), words{}
		if w.dir(t, l) != root {
			t.Fatal(i, "another name")
		}
		roots = append(roots, root)
		maps.Copy(all, w)
		checkSet(t, fmt.Sprint(i), reached(t, s, root), w)
		checkSet(t, fmt.Sprint(i, ", twice"), reached(t, s, root, root), w)
	}
	for _, s := range []save.Saver{s, saver(t, store, "u", 1)} {
		checkSet(t, "all", reached(t, s, roots...), all)
		slices.Reverse(roots)
		checkSet(t, "all, the other way", reached(t, s, roots...), all)
	}
	// A directory that is in a tree, as a root of its own, ahead of the tree and behind it.
	l, e := s.Dir(saved(t, s, dir("d", file("f", some(1, 300))), file("g", some(2, 300))))
	checkErrno(t, "Dir", e, api.OK)
	w := words{}
	outer := w.dir(t, []api.Item{dir("d", file("f", some(1, 300))), file("g", some(2, 300))})
	checkSet(t, "inner, outer", reached(t, s, l[0].Tree, outer), w)
	checkSet(t, "outer, inner", reached(t, s, outer, l[0].Tree), w)
}

// P19.1: what waits yet is found as what is kept.
func TestReachOfWhatWaits(t *testing.T) {
	s := saver(t, newShelf(t), "t", 800000)
	for i, l := range trees() {
		root, e := s.Save(l...)
		checkErrno(t, "Save", e, api.OK)
		w := words{}
		w.dir(t, l)
		need := reached(t, s, root)
		checkSet(t, fmt.Sprint(i), need, w)
		checkLost(t, fmt.Sprint(i), s, need)
	}
}

// P19.1: each directory is read once, however many ways lead to it; however deep they are.
func TestReachEnds(t *testing.T) {
	s := saver(t, newShelf(t), "t", 800000)
	w := words{}
	nodes := func(l ...node.Node) api.Id {
		id := putNodes(t, s, l...)
		w[id] = 2
		return id
	}
	id := nodes()
	for range 60 {
		id = nodes(node.Node{Name: "a", Kind: api.Dir, Tree: id}, node.Node{Name: "b", Kind: api.Dir, Tree: id}, node.Node{Name: "c", Kind: api.Link, Target: "a"})
	}
	checkSet(t, "doubled", reached(t, s, id), w)
	for range 3000 {
		id = nodes(node.Node{Name: "a", Kind: api.Dir, Tree: id})
	}
	var l []node.Node
	for i := range 2000 {
		l = append(l, node.Node{Name: fmt.Sprintf("%04d", i), Kind: api.Dir, Tree: id})
	}
	checkSet(t, "deep", reached(t, s, nodes(l...), id, id), w)
}

// P19.1: pieces aren't read: such as are lost, or never were, are told all the same.
func TestReachReadsNoPieces(t *testing.T) {
	store := newShelf(t)
	s := saver(t, store, "t", 1) // a pack for each blob
	data := some(1, 900)
	root := saved(t, s, file("f", data), dir("d", file("g", data[100:])))
	w := words{}
	w.dir(t, []api.Item{file("f", data), dir("d", file("g", data[100:]))})
	var pieces []api.Id
	for id, kind := range w {
		if p, _ := s.Find(id); kind == 1 {
			checkErrno(t, "Steal", store.Steal(p.Pack), api.OK)
			pieces = append(pieces, id)
		}
	}
	need := reached(t, s, root)
	checkSet(t, "stolen", need, w)
	checkLost(t, "stolen", s, need, pieces...)

	other := putNodes(t, s, node.Node{Name: "f", Size: 10, Parts: []api.Id{{1}, {2}, {1}}}, node.Node{Name: "g", Kind: api.Dir, Tree: root})
	w[other], w[api.Id{1}], w[api.Id{2}] = 2, 1, 1
	need = reached(t, s, other)
	checkSet(t, "never there", need, w)
	checkLost(t, "never there", s, need, append(pieces, api.Id{1}, api.Id{2})...)
}

// P19.1: a name that stands as a piece and as a directory is gone through as a directory, whichever comes first.
func TestReachOfBoth(t *testing.T) {
	s := saver(t, newShelf(t), "t", 300)
	below := putNodes(t, s, node.Node{Name: "x", Size: 1, Parts: []api.Id{{9}}})
	asPiece := func(name string) node.Node { return node.Node{Name: name, Size: 1, Parts: []api.Id{below}} }
	asDir := func(name string) node.Node { return node.Node{Name: name, Kind: api.Dir, Tree: below} }
	for what, l := range map[string][]node.Node{"the piece first": {asPiece("a"), asDir("b")}, "the directory first": {asDir("a"), asPiece("b")}} {
		root := putNodes(t, s, l...)
		checkSet(t, what, reached(t, s, root), words{root: 2, below: 2, {9}: 1})
	}
	one, two := putNodes(t, s, asPiece("a")), putNodes(t, s, asDir("a"))
	for _, roots := range [][]api.Id{{one, two}, {two, one}, {one, below, two}} {
		checkSet(t, "in two", reached(t, s, roots...), words{one: 2, two: 2, below: 2, {9}: 1}.of(roots...))
	}
	// And one that is no directory is told, though a file names it ahead.
	piece := put(t, s, 1, []byte("p"))
	checkUnreached(t, "a piece", s, api.ErrCorrupt, putNodes(t, s, node.Node{Name: "a", Size: 1, Parts: []api.Id{piece}}, node.Node{Name: "b", Kind: api.Dir, Tree: piece}))
}

// of: with these directories, too.
func (w words) of(dirs ...api.Id) words {
	for _, id := range dirs {
		w[id] = 2
	}
	return w
}

// P19.1: Reach's errors.
func TestReachErrors(t *testing.T) {
	store := newShelf(t)
	s := saver(t, store, "t", 1)
	checkUnreached(t, "no vault", save.Saver{}, api.ErrArg)
	checkUnreached(t, "no vault", save.Saver{Rule: rule()}, api.ErrArg, api.Id{1})
	good := saved(t, s, dir("d", file("f", some(1, 500))), file("g", some(2, 500)))
	l, e := s.Dir(good)
	checkErrno(t, "Dir", e, api.OK)
	for what, bad := range map[string]api.Id{"noughts": {}, "none": {7}, "a piece": l[1].Parts[0], "no directory": put(t, s, 2, []byte("no directory")), "empty": put(t, s, 2, nil), "of another kind": put(t, s, 1, []byte{0x48, 0x59, 0x6e, 0})} {
		checkUnreached(t, what, s, api.ErrCorrupt, bad)
		checkUnreached(t, what+", behind", s, api.ErrCorrupt, good, bad)
		checkUnreached(t, what+", ahead", s, api.ErrCorrupt, bad, good)
		checkUnreached(t, what+", below", s, api.ErrCorrupt, putNodes(t, s, node.Node{Name: "d", Kind: api.Dir, Tree: good}, node.Node{Name: "e", Kind: api.Dir, Tree: bad}))
	}
	checkUnreached(t, "bare", save.Saver{Vault: new(vault.Vault)}, api.ErrCorrupt, good)
	checkErrno(t, "Commit", s.Commit(), api.OK)
	off(store)
	checkUnreached(t, "off", s, api.ErrDown, good)
	checkUnreached(t, "off", s, api.ErrDown, l[0].Tree)
	checkSet(t, "off, nothing to read", reached(t, s), words{})
	// Of two errors that which comes first, in the order in which the trees are loaded. (That of noughts is told without a look at the store.)
	checkUnreached(t, "off, none first", s, api.ErrCorrupt, api.Id{}, good)
	checkUnreached(t, "off, none behind", s, api.ErrDown, good, api.Id{})
}

// P19.1: directories are read in the order in which Load reads them: what is told of several errors is what Load would tell.
func TestReachInOrder(t *testing.T) {
	store := newShelf(t)
	s := saver(t, store, "t", 800000)
	kept := putNodes(t, s, node.Node{Name: "kept", Kind: api.Link, Target: "t"})
	checkErrno(t, "Commit", s.Commit(), api.OK)
	// What waits is told without power; what is kept isn't; what isn't there is told to be so.
	d := func(name string, id api.Id) node.Node { return node.Node{Name: name, Kind: api.Dir, Tree: id} }
	deep := putNodes(t, s, d("a", putNodes(t, s)), d("b", kept))
	first := putNodes(t, s, d("a", deep), d("b", api.Id{1}))
	second := putNodes(t, s, d("a", putNodes(t, s)), d("b", api.Id{1}), d("c", deep))
	off(store)
	for _, x := range []struct {
		roots []api.Id
		want  api.Errno
	}{{[]api.Id{first}, api.ErrDown}, {[]api.Id{second}, api.ErrCorrupt}, {[]api.Id{second, first}, api.ErrCorrupt}, {[]api.Id{first, second}, api.ErrDown}} {
		_, e := s.Load(x.roots[0])
		checkErrno(t, "Load", e, x.want)
		checkUnreached(t, "off", s, x.want, x.roots...)
	}
}

// P19.1: a directory that somebody changed, or took away, or laid another one in the place of.
func TestReachOfChanged(t *testing.T) {
	store := newShelf(t)
	s := saver(t, store, "t", 1)
	root := saved(t, s, dir("d", dir("e", file("f", some(1, 500)))), file("g", some(2, 500)))
	w := words{}
	w.dir(t, []api.Item{dir("d", dir("e", file("f", some(1, 500)))), file("g", some(2, 500))})
	other, _ := s.Find(saved(t, s, link("l", "aim")))
	foreign, _ := store.Get(other.Pack)
	was := store.Photo()
	for id, kind := range w {
		p, _ := s.Find(id)
		b, _ := store.Get(p.Pack)
		want := api.ErrCorrupt
		if kind == 1 {
			want = api.OK
		}
		check := func(what string) {
			t.Helper()
			need, e := mark.Reach(s, root)
			if e != want || (need == nil) != (want != api.OK) {
				t.Errorf("%s: kind %d: %d, not %d", what, kind, e, want)
			}
			checkErrno(t, "Restore", store.Restore(was), api.OK)
		}
		store.Steal(p.Pack)
		check("stolen")
		store.Forge(p.Pack, foreign)
		check("another one's")
		store.Forge(p.Pack, b[:len(b)-1])
		check("cut")
		b[len(b)/2] ^= 1
		store.Forge(p.Pack, b)
		check("changed")
	}
	checkSet(t, "as it was", reached(t, s, root), w)
}

// P19.1: what a vault doesn't tell, of a set of any names and kinds; rising.
func TestLost(t *testing.T) {
	store := newShelf(t)
	s := saver(t, store, "t", 1)
	root := saved(t, s, trees()[4]...)
	need := reached(t, s, root)
	checkLost(t, "whole", s, need)
	checkLost(t, "nil", s, nil)
	checkLost(t, "none", s, new(mark.Set))
	all := need.Ids()
	was := store.Photo()
	for pick := range 1 << min(len(all), 8) {
		var gone []api.Id
		for i, id := range all {
			if pick>>(i%8)&1 == 0 {
				continue
			}
			gone = append(gone, id)
			if p, _ := s.Find(id); i%2 == 0 {
				store.Steal(p.Pack)
			} else {
				store.Forge(p.Pack, []byte("changed"))
			}
		}
		checkLost(t, fmt.Sprint(pick), s, need, gone...)
		checkErrno(t, "Restore", store.Restore(was), api.OK)
	}
	// As of their kinds: what is there as of the other one isn't told.
	for _, id := range all {
		other := 3 - need.Kind(id)
		checkLost(t, "another kind", s, mark.Join(mark.Of(other, id), need), id)
		checkLost(t, "another kind, alone", s, mark.Of(other, id), id)
	}
	checkLost(t, "never there", s, mark.Join(need, mark.Of(1, api.Id{255}, api.Id{1}), mark.Of(2, api.Id{3})), api.Id{255}, api.Id{1}, api.Id{3})
	waits := put(t, saver(t, store, "u", 800000), 1, []byte("waits"))
	checkLost(t, "another vault's", s, mark.Of(1, waits), waits)
}

// P19.1: Lost's errors.
func TestLostErrors(t *testing.T) {
	store := newShelf(t)
	s := saver(t, store, "t", 300)
	need := reached(t, s, saved(t, s, trees()[4]...))
	for _, set := range []*mark.Set{nil, need, mark.Of(1, api.Id{1})} {
		if l, e := mark.Lost(save.Saver{Rule: rule()}, set); l != nil || e != api.ErrArg {
			t.Error("no vault", l, e)
		}
	}
	checkLost(t, "bare", save.Saver{Vault: new(vault.Vault)}, need, need.Ids()...)
	off(store)
	for _, set := range []*mark.Set{need, mark.Join(mark.Of(1, api.Id{}), need), mark.Join(mark.Of(1, api.Id{255, 255}), need)} {
		if l, e := mark.Lost(s, set); l != nil || e != api.ErrDown {
			t.Error("off", l, e)
		}
	}
	checkLost(t, "off, not in the table", s, mark.Of(1, api.Id{1}), api.Id{1})
}

// P19.2: nothing more: without any one of what Reach tells the tree isn't loaded. Nothing less: with these alone it is.
func TestReachIsWhatLoadReads(t *testing.T) {
	store := newShelf(t)
	s := saver(t, store, "t", 1) // a pack for each blob
	var roots []api.Id
	for _, l := range trees() {
		roots = append(roots, saved(t, s, l...))
	}
	was := store.Photo()
	check := func(what string, i int, want api.Errno) {
		t.Helper()
		got, e := s.Load(roots[i])
		checkErrno(t, what, e, want)
		if e == api.OK && !tree.Same(got, trees()[i]) {
			t.Error(what, "another tree")
		}
	}
	for i := range roots {
		need := reached(t, s, roots[i])
		for _, id := range s.Ids() {
			p, _ := s.Find(id)
			want := api.OK
			if need.Has(id) {
				want = api.ErrCorrupt
			}
			b, _ := store.Get(p.Pack)
			store.Steal(p.Pack)
			check(fmt.Sprint(i, " without one"), i, want)
			store.Forge(p.Pack, b)
		}
		for _, p := range s.Packs() {
			if !need.Has(p.Entries[0].Id) {
				checkErrno(t, "Steal", store.Steal(p.Name), api.OK)
			}
		}
		check(fmt.Sprint(i, " with these alone"), i, api.OK)
		checkErrno(t, "Restore", store.Restore(was), api.OK)
	}
}

// Rule 4, rule 5: what is handed in isn't changed, its spare room neither; nothing is changed by looking.
func TestReachChangesNothing(t *testing.T) {
	store := newShelf(t)
	s := saver(t, store, "t", 300)
	a, b := saved(t, s, trees()[4]...), saved(t, s, trees()[5]...)
	steps := store.Steps()
	room := []api.Id{a, b, {7}}
	need := reached(t, s, room[:2]...)
	checkLost(t, "whole", s, need)
	if room[0] != a || room[1] != b || room[2] != (api.Id{7}) {
		t.Error("changed")
	}
	clear(room)
	if !need.Has(a) || !need.Has(b) || need.Has(api.Id{}) {
		t.Error("kept")
	}
	if store.Steps() != steps {
		t.Error(store.Steps()-steps, "changes")
	}
}
