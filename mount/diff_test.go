package mount_test

import (
	"fmt"
	"math/rand"
	"slices"
	"strings"
	"testing"

	"hypogeum/api"
	"hypogeum/cut"
	"hypogeum/log"
	"hypogeum/mount"
	"hypogeum/node"
	"hypogeum/repo"
	"hypogeum/tree"
)

// changed: the tree, one item of which is changed.
func changed(l []api.Item, path string, change func(x *api.Item)) []api.Item {
	l = tree.Sort(l...)
	names := strings.Split(path, "/")
	level := l
	for i, name := range names {
		at := slices.IndexFunc(level, func(x api.Item) bool { return x.Name == name })
		if i == len(names)-1 {
			change(&level[at])
			return l
		}
		level = level[at].Kids
	}
	return l
}

// P22.1: Diff: one item that is otherwise, in each of the ways; both ways round.
func TestDiff(t *testing.T) {
	base := plain()
	for i, x := range []struct {
		b    []api.Item
		want []string
	}{
		{base, nil},
		{nil, []string{"away", "d", "d/e", "d/e/g", "d/f", "d/l", "d/none", "empty", "x", "x/g", "z"}},
		{changed(base, "z", func(x *api.Item) { x.Mode++ }), []string{"z"}},
		{changed(base, "z", func(x *api.Item) { x.Time++ }), []string{"z"}},
		{changed(base, "z", func(x *api.Item) { x.Data += "x" }), []string{"z"}},
		{changed(base, "z", func(x *api.Item) { x.Data = "" }), []string{"z"}},
		{changed(base, "empty", func(x *api.Item) { x.Data = "x" }), []string{"empty"}},
		{changed(base, "z", func(x *api.Item) { x.Name = "y" }), []string{"y", "z"}},
		{changed(base, "d", func(x *api.Item) { x.Mode++ }), []string{"d"}},
		{changed(base, "d", func(x *api.Item) { x.Time++ }), []string{"d"}},
		{changed(base, "d/e", func(x *api.Item) { x.Time++ }), []string{"d/e"}},
		{changed(base, "d/e/g", func(x *api.Item) { x.Data = "x" }), []string{"d/e/g"}}, // those whose items alone differ don't count
		{changed(base, "d/e/g", func(x *api.Item) { x.Name = "h" }), []string{"d/e/g", "d/e/h"}},
		{changed(base, "d/l", func(x *api.Item) { x.Data = "../x" }), []string{"d/l"}},
		{changed(base, "d/l", func(x *api.Item) { x.Kind = api.File }), []string{"d/l"}},
		{changed(base, "d/none", func(x *api.Item) { x.Kids = []api.Item{file("n", "")} }), []string{"d/none/n"}},
		{changed(base, "d/none", func(x *api.Item) { x.Kind = api.File }), []string{"d/none"}},
		{changed(base, "d/none", func(x *api.Item) { x.Kind, x.Data = api.Link, "a" }), []string{"d/none"}},
		{changed(base, "d", func(x *api.Item) { x.Name = "e" }), []string{"d", "d/e", "d/e/g", "d/f", "d/l", "d/none", "e", "e/e", "e/e/g", "e/f", "e/l", "e/none"}},
		{changed(base, "d", func(x *api.Item) { x.Kids = nil }), []string{"d/e", "d/e/g", "d/f", "d/l", "d/none"}},
		{changed(base, "d", func(x *api.Item) { *x = file("d", "") }), []string{"d", "d/e", "d/e/g", "d/f", "d/l", "d/none"}},
		{changed(base, "d", func(x *api.Item) { *x = link("d", "x") }), []string{"d", "d/e", "d/e/g", "d/f", "d/l", "d/none"}},
		{changed(base, "d/e", func(x *api.Item) { x.Mode, x.Kids = 0, nil }), []string{"d/e", "d/e/g"}},
		{append(slices.Clone(base), file("d-e", ""), file("d!", ""), file("d0", ""), file("dd", "")), []string{"d!", "d-e", "d0", "dd"}},
		{append(changed(base, "d/f", func(x *api.Item) { x.Time = 0 }), file("d-e", ""), dir("d0", file("a", ""))), []string{"d-e", "d/f", "d0", "d0/a"}},
	} {
		for _, target := range []int{1, 800000} {
			what := fmt.Sprint(i, " ", target)
			p, r := created(t, by(7, target), base, x.b)
			a, b := mounted(t, r, 1), mounted(t, p.open("o", by(3, 500)), 2)
			steps := p.store.Steps()
			checkDiff(t, what, a, b, x.want)
			checkDiff(t, what, b, a, x.want)
			checkDiff(t, what, a, a, nil)
			if !slices.Equal(x.want, diffOf(base, x.b)) || p.store.Steps() != steps {
				t.Error(what, "the test itself, or changes")
			}
		}
	}
}

// P22.1: of trees by chance, each against each.
func TestDiffs(t *testing.T) {
	chance := rand.New(rand.NewSource(5))
	var l [][]api.Item
	for range 60 {
		l = append(l, chancy(chance, 4))
	}
	_, r := created(t, by(7, 5000), l...)
	var mounts []*mount.Mount
	for i := range l {
		mounts = append(mounts, mounted(t, r, i+1))
	}
	same, most := 0, 0
	for i, a := range mounts {
		for j, b := range mounts {
			want := diffOf(l[i], l[j])
			checkDiff(t, fmt.Sprint(i, " ", j), a, b, want)
			if len(want) == 0 {
				same++
			}
			most = max(most, len(want))
		}
	}
	if same < 60 || most < 20 {
		t.Error(same, most)
	}
}

// pieces: the sizes of those of some bytes, by a rule.
func pieces(t *testing.T, r cut.Rule, data string) []int {
	t.Helper()
	l, e := cut.Sizes(r, []byte(data))
	checkErrno(t, "Sizes", e, api.OK)
	return l
}

// A file that is cut by another rule counts as another one, if its pieces are others.
func TestDiffByOtherRule(t *testing.T) {
	p, r := created(t, by(7, 500), plain())
	c := by(3, 500)
	c.Rule = cut.Rule{Least: 64, Most: 80, Bits: 20, Poly: prime}
	backup(t, p.open("o", c), 2, plain())
	var want []string
	for path, x := range byPath("", plain()) {
		if x.Kind == api.File && !slices.Equal(pieces(t, small(), x.Data), pieces(t, c.Rule, x.Data)) {
			want = append(want, path)
		}
	}
	slices.Sort(want)
	if !slices.Equal(want, []string{"d/e/g", "x/g", "z"}) {
		t.Fatal(want)
	}
	checkDiff(t, "another rule", mounted(t, r, 1), mounted(t, r, 2), want)
	checkDiff(t, "another rule", mounted(t, r, 2), mounted(t, p.open("q", c), 1), want)
}

// Of two stores: with one word and salt names are the same; else each file that has pieces counts, as these have other names.
func TestDiffOfTwoStores(t *testing.T) {
	p, r := created(t, by(7, 500), plain())
	q := newPlace(t)
	for name, b := range p.objects() {
		q.forge(name, b)
	}
	checkErrno(t, "Raise", q.cell.Raise(1), api.OK)
	o := q.open("o", by(3, 400))
	checkDiff(t, "copy", mounted(t, r, 1), mounted(t, o, 1), nil)
	backup(t, o, 2, deep(2))
	checkDiff(t, "copy", mounted(t, r, 1), mounted(t, o, 2), diffOf(plain(), deep(2)))
	do(t, o, repo.Work{What: repo.Forget, Seq: 1})
	do(t, o, repo.Work{What: repo.Prune})
	checkDiff(t, "copy", mounted(t, r, 1), mounted(t, o, 2), diffOf(plain(), deep(2)))

	c := by(7, 500)
	c.Word = "another word"
	_, other := created(t, c, plain())
	checkDiff(t, "another word", mounted(t, r, 1), mounted(t, other, 1), []string{"d/e/g", "d/f", "x/g", "z"})
}

// What has one name as a blob isn't read, nor are pieces; all else is.
func TestDiffReadsNoMore(t *testing.T) {
	a := []api.Item{dir("common", dir("d", file("f", some(1, 500))), file("g", "g")), dir("own", file("a", some(2, 400)), dir("below", file("b", some(3, 300)))), file("z", some(4, 300))}
	b := changed(a, "own/below/b", func(x *api.Item) { x.Data = some(5, 300) })
	p, r := created(t, by(7, 1), a, b)
	m, k := mounted(t, r, 1), mounted(t, r, 2)
	whole := p.store.Photo()
	s, snaps, e := r.Saver()
	checkErrno(t, "Saver", e, api.OK)
	var need []string
	for _, x := range snaps {
		id := x.Root
		for _, name := range []string{"own", "below", ""} {
			place, _ := s.Find(id)
			need = append(need, place.Pack)
			l, e := s.Dir(id)
			checkErrno(t, "Dir", e, api.OK)
			n, _ := node.Find(name, l...)
			id = n.Tree
		}
	}
	for _, name := range p.names("p/") {
		if !slices.Contains(need, name) {
			p.steal(name)
		}
	}
	checkDiff(t, "what isn't needed is stolen", m, k, []string{"own/below/b"})
	p.store.Restore(whole)
	for _, name := range need {
		p.steal(name)
		checkNoDiff(t, name, m, k, api.ErrCorrupt)
		checkNoDiff(t, name, k, m, api.ErrCorrupt)
		p.store.Restore(whole)
	}
	for _, name := range p.names("") {
		p.steal(name)
	}
	checkDiff(t, "one snapshot, all is stolen", m, mounted2(m), nil)
}

// mounted2: another one of the same snapshot.
func mounted2(m *mount.Mount) *mount.Mount {
	k := *m
	return &k
}

// made: a snapshot of a directory, by somebody who has the keys; its number.
func made(t *testing.T, p *place, r *repo.Repo, dir func(put func(l ...node.Node) api.Id) api.Id) int {
	t.Helper()
	s, _, e := r.Saver()
	checkErrno(t, "Saver", e, api.OK)
	root := dir(func(l ...node.Node) api.Id {
		b, e := node.Encode(l...)
		checkErrno(t, "Encode", e, api.OK)
		id, _, e := s.Put(2, b)
		checkErrno(t, "Put", e, api.OK)
		return id
	})
	checkErrno(t, "Commit", s.Commit(), api.OK)
	l, e := log.Open(p.store, s.Pen, p.cell)
	checkErrno(t, "log.Open", e, api.OK)
	n, e := l.Add(log.Record{Kind: log.Made, Snap: api.Snap{Root: root}})
	checkErrno(t, "Add", e, api.OK)
	return n
}

// P22.2 has no word for a directory that names nothing: it isn't there, whatever stands beside it.
func TestNameOfNothing(t *testing.T) {
	_, r := created(t, by(7, 500), nil, []api.Item{dir("d")}, []api.Item{file("d", "")})
	p := &place{t, r.Shelf, r.Cell, r.Clock}
	m := mounted(t, r, made(t, p, r, func(put func(l ...node.Node) api.Id) api.Id {
		return put(node.Node{Name: "d", Kind: api.Dir, Mode: 0o755, Time: 8})
	}))
	for seq := 1; seq <= 3; seq++ {
		checkNoDiff(t, fmt.Sprint(seq), m, mounted(t, r, seq), api.ErrCorrupt)
		checkNoDiff(t, fmt.Sprint(seq), mounted(t, r, seq), m, api.ErrCorrupt)
	}
	for _, q := range []question{stat("d", text(tree.Row{Path: "d", Kind: 1}), api.OK), list("d", "", api.ErrCorrupt), stat("d/f", "", api.ErrCorrupt)} {
		if got, e := q.ask(m); got != q.want || e != q.e {
			t.Errorf("%s: %q, %d", q.what, got, e)
		}
	}
}

// doubled: directories that have the next one twice, so many, one in the other; in the last one a link.
func doubled(levels int, aim string) func(put func(l ...node.Node) api.Id) api.Id {
	return func(put func(l ...node.Node) api.Id) api.Id {
		id := put(node.Node{Name: "l", Kind: api.Link, Target: aim})
		for range levels {
			id = put(node.Node{Name: "a", Kind: api.Dir, Tree: id}, node.Node{Name: "b", Kind: api.Dir, Tree: id})
		}
		return id
	}
}

// chain: so many directories, one in the other; in the last one so many links.
func chain(levels, links int, aim string) func(put func(l ...node.Node) api.Id) api.Id {
	return func(put func(l ...node.Node) api.Id) api.Id {
		var l []node.Node
		for i := range links {
			l = append(l, node.Node{Name: fmt.Sprintf("l%06d", i), Kind: api.Link, Target: aim})
		}
		id := put(l...)
		for range levels {
			id = put(node.Node{Name: "d", Kind: api.Dir, Tree: id})
		}
		return id
	}
}

// P1: all calls end, also of what somebody made who has the keys: directories that come to a great many items, or are very deep. Diff tells that such a tree is none.
func TestTooMuch(t *testing.T) {
	p, r := created(t, by(7, 800000), nil)
	empty := mounted(t, r, 1)
	for i, x := range []struct {
		a, b func(put func(l ...node.Node) api.Id) api.Id
		want api.Errno
	}{
		{doubled(50, "a"), doubled(50, "b"), api.ErrCorrupt},
		{doubled(3000, "a"), doubled(2999, "b"), api.ErrCorrupt},
		{doubled(9, "a"), doubled(9, "b"), api.OK}, // 1022 directories, 512 links
		{doubled(10, "a"), doubled(10, "b"), api.ErrCorrupt},
		{chain(63, 1, "a"), chain(63, 1, "b"), api.OK},
		{chain(64, 0, "a"), chain(63, 0, "b"), api.OK},
		{chain(64, 1, "a"), chain(64, 1, "b"), api.ErrCorrupt},
		{chain(5000, 1, "a"), chain(5000, 1, "b"), api.ErrCorrupt},
		{chain(0, 2000, "a"), chain(0, 2000, "b"), api.OK},
		{chain(1, 1999, "a"), chain(1, 1999, "b"), api.OK},
		{chain(1, 2000, "a"), chain(1, 2000, "b"), api.ErrCorrupt},
	} {
		a, b := mounted(t, r, made(t, p, r, x.a)), mounted(t, r, made(t, p, r, x.b))
		for _, two := range [][2]*mount.Mount{{a, b}, {b, a}} {
			l, e := mount.Diff(two[0], two[1])
			if e != x.want || e != api.OK && l != nil || e == api.OK && len(l) == 0 {
				t.Error(i, len(l), e)
			}
		}
		if _, e := mount.Diff(a, empty); e != x.want {
			t.Error(i, e)
		}
		checkDiff(t, fmt.Sprint(i), a, a, nil)
	}
	deep := mounted(t, r, made(t, p, r, chain(2000, 1, "aim")))
	path := strings.Repeat("d/", 2000) + "l000000"
	if aim, e := deep.Aim(path); aim != "aim" || e != api.OK {
		t.Error(aim, e)
	}
	twice := mounted(t, r, made(t, p, r, doubled(2000, "aim")))
	if l, e := twice.List(strings.Repeat("b/", 1999) + "a"); len(l) != 1 || e != api.OK {
		t.Error(l, e)
	}
}
