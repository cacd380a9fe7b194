package mount_test

import (
	"fmt"
	"math"
	"math/rand"
	"slices"
	"strings"
	"testing"

	"hypogeum/api"
	"hypogeum/mount"
	"hypogeum/node"
	"hypogeum/repo"
	"hypogeum/save"
	"hypogeum/tree"
)

// many: so many files.
func many(n int) []api.Item {
	var l []api.Item
	for i := range n {
		l = append(l, file(fmt.Sprintf("%06d", i), fmt.Sprint("file ", i)))
	}
	return l
}

// P22.1: all calls of trees of each form, whatever packs they are in: by the hand that saved them, and another one.
func TestCalls(t *testing.T) {
	l := [][]api.Item{nil, {file("a", "")}, {dir("a")}, {link("a", strings.Repeat("t", 4095))}, plain(), deep(63), many(20), {file(strings.Repeat("n", 255), some(3, 2000))}}
	chance := rand.New(rand.NewSource(1))
	for range 20 {
		l = append(l, chancy(chance, 4))
	}
	for _, target := range []int{1, 500, 800000} {
		p, r := created(t, by(7, target), l...)
		o := p.open("o", by(3, 800000))
		for i, items := range l {
			was, steps := p.objects(), p.store.Steps()
			checkAll(t, fmt.Sprint(i), mounted(t, r, i+1), items)
			checkAll(t, fmt.Sprint(i), mounted(t, o, i+1), items)
			if p.store.Steps() != steps || len(p.objects()) != len(was) {
				t.Error(i, "something is changed")
			}
		}
	}
}

// Read: of each place and count, of files of each size.
func TestRead(t *testing.T) {
	var items []api.Item
	for _, size := range []int{0, 1, 63, 64, 65, 200, 201, 450} {
		items = append(items, file(fmt.Sprint(size), some(int64(size), size)))
	}
	_, r := created(t, by(7, 800000), []api.Item{dir("d", items...)})
	m := mounted(t, r, 1)
	for _, x := range items {
		n := len(x.Data)
		for _, at := range []int{math.MinInt, -1, 0, 1, 63, 64, 65, 199, 200, 449, n - 1, n, n + 1, math.MaxInt} {
			for _, count := range []int{math.MinInt, -1, 0, 1, 2, 63, 64, 65, 200, n - 1, n, n + 1, math.MaxInt} {
				q := read("d/"+x.Name, at, count, "", api.ErrArg)
				if at >= 0 {
					from := min(at, n)
					q.want, q.e = x.Data[from:from+min(max(count, 0), n-from)], api.OK
				}
				if got, e := q.ask(m); got != q.want || e != q.e {
					t.Errorf("%s: %.200q, %d, not %.200q, %d", q.what, got, e, q.want, q.e)
				}
			}
		}
	}
}

// A tree of as many items as there may be.
func TestMostItems(t *testing.T) {
	items := append(many(1000), dir("d", many(999)...))
	_, r := created(t, by(7, 800000), items)
	m := mounted(t, r, 1)
	for _, path := range []string{"", "d"} {
		l, e := m.List(path)
		want := kids(path, tree.Rows(items...))
		if !slices.Equal(l, want) || e != api.OK {
			t.Error(path, len(l), e)
		}
	}
	checkDiff(t, "itself", m, m, nil)
}

// ErrName: each path that is none, whatever it would lead to; ahead of ErrMiss.
func TestNoPaths(t *testing.T) {
	_, r := created(t, by(7, 500), plain())
	m := mounted(t, r, 1)
	for _, path := range []string{
		"/", "//", "/d", "d/", "d//f", "d/.", "./d", "d/../d", "..", ".", "none/", "none//a", "d/f/", "z/", "\x00", "d/\x00", "none/.", strings.Repeat("n", 256), "d/" + strings.Repeat("n", 256),
	} {
		for _, q := range refused(path, api.ErrName) {
			if got, e := q.ask(m); got != "" || e != q.e {
				t.Errorf("%s: %q, %d", q.what, got, e)
			}
		}
	}
	for _, path := range []string{"none", "d/nought", "D", "d/f/x", "d/l/x", "away/x", "z/x/y", "d ", " ", "...", strings.Repeat("n", 255), strings.Repeat("d/", 5000) + "d"} {
		for _, q := range refused(path, api.ErrMiss) {
			if got, e := q.ask(m); got != "" || e != q.e {
				t.Errorf("%s: %q, %d", q.what, got, e)
			}
		}
	}
}

// The example of the chapter.
func TestExample(t *testing.T) {
	_, r := created(t, by(7, 500), []api.Item{dir("d", file("f", "some bytes"))})
	m := mounted(t, r, 1)
	if l, e := m.List("d"); !slices.Equal(l, []tree.Row{{Path: "d/f", Kind: 0, Size: 10}}) || e != api.OK {
		t.Error(l, e)
	}
	if b, e := m.Read("d", 0, 1); b != nil || e != api.ErrArg {
		t.Error(b, e)
	}
	if x, e := m.Stat("d/f/x"); x != (tree.Row{}) || e != api.ErrMiss {
		t.Error(x, e)
	}
	if x, e := m.Stat(""); x != (tree.Row{Kind: 1}) || e != api.OK {
		t.Error(x, e)
	}
}

func checkNotOpen(t *testing.T, what string, r *repo.Repo, seq int, want api.Errno) {
	t.Helper()
	if m, e := mount.Open(r, seq); m != nil || e != want {
		t.Errorf("%s: Open: %v, %d, not %d", what, m, e, want)
	}
}

// Open: ErrArg: no hand; ErrMiss: no such snapshot, or it was forgotten; errors of Saver.
func TestOpen(t *testing.T) {
	p, r := created(t, by(7, 500), plain(), deep(3), nil)
	checkNotOpen(t, "nil", nil, 1, api.ErrArg)
	checkNotOpen(t, "nil", nil, 0, api.ErrArg)
	checkNotOpen(t, "no hand", new(repo.Repo), 1, api.ErrArg)
	do(t, r, repo.Work{What: repo.Forget, Seq: 2}) // record 4
	for _, seq := range []int{0, -1, 2, 4, 5, 1<<32 + 1, math.MinInt, math.MaxInt} {
		checkNotOpen(t, fmt.Sprint(seq), r, seq, api.ErrMiss)
	}
	checkAll(t, "1", mounted(t, r, 1), plain())
	checkAll(t, "3", mounted(t, r, 3), nil)
	// While work is under way, of another client or of the hand itself.
	o := p.open("o", by(3, 500))
	checkErrno(t, "Begin", o.Begin(repo.Work{What: repo.Prune}), api.OK)
	for last := false; !last; {
		checkAll(t, "between", mounted(t, o, 1), plain())
		checkAll(t, "between", mounted(t, r, 1), plain())
		_, last, _ = o.Step()
	}
	p.forge("x/junk", "junk")
	checkNotOpen(t, "junk", r, 1, api.ErrCorrupt)
	p.steal("x/junk", "s/00000003")
	checkNotOpen(t, "stolen", r, 1, api.ErrCorrupt)
	p.store.Arm(0)
	p.store.Nudge()
	checkNotOpen(t, "off", r, 1, api.ErrDown)
}

// A nil mount, and one that Open didn't make: ErrArg, and nothing beside it, whatever the path.
func TestNil(t *testing.T) {
	_, r := created(t, by(7, 500), plain())
	m := mounted(t, r, 1)
	for _, n := range []*mount.Mount{nil, new(mount.Mount)} {
		for _, path := range []string{"", "d", "d/f", "//", "none"} {
			for _, q := range refused(path, api.ErrArg) {
				if got, e := q.ask(n); got != "" || e != q.e {
					t.Errorf("%s: %q, %d", q.what, got, e)
				}
			}
		}
		checkNoDiff(t, "nil", n, m, api.ErrArg)
		checkNoDiff(t, "nil", m, n, api.ErrArg)
		checkNoDiff(t, "nil", n, n, api.ErrArg)
	}
}

// A mount embeds its saver: the saver's calls are its own.
func TestEmbedsSaver(t *testing.T) {
	_, r := created(t, by(7, 500), plain())
	m := mounted(t, r, 1)
	var s save.Saver = m.Saver
	if s.Rule != small() || m.Rule != small() {
		t.Error(m.Rule)
	}
	root := do(t, r, repo.Work{What: repo.List}).Snaps[0].Root
	if l, e := m.Load(root); e != api.OK || !tree.Same(l, plain()) {
		t.Error("Load", e)
	}
	l, e := m.Dir(root)
	if e != api.OK || len(l) != 5 {
		t.Error("Dir", len(l), e)
	}
	if b, e := m.Bytes(l[4], 5, 10); string(b) != some(1, 900)[5:15] || e != api.OK {
		t.Error("Bytes", e)
	}
}

// It is that snapshot for good: whatever is saved, forgotten and pruned, by any hand, as long as a snapshot needs it; behind that: ErrCorrupt.
func TestForGood(t *testing.T) {
	for _, target := range []int{1, 300, 800000} {
		half := append(many(30), plain()...)
		p, r := created(t, by(7, target), append(many(60), file("own", some(9, 1000))), half, deep(5), plain())
		o := p.open("o", by(3, target))
		m, k := mounted(t, r, 2), mounted(t, o, 2)
		gone := mounted(t, r, 1)
		check := func(what string) {
			t.Helper()
			checkAll(t, what, m, half)
			checkAll(t, what, k, half)
			checkDiff(t, what, m, k, nil)
		}
		check("new")
		backup(t, o, 5, many(10))
		check("saved")
		do(t, o, repo.Work{What: repo.Forget, Seq: 1})
		check("forgotten another one")
		packs := p.names("p/")
		do(t, o, repo.Work{What: repo.Prune})
		if target > 1 && slices.Equal(packs, p.names("p/")) {
			t.Fatal("nothing was moved")
		}
		check("pruned")
		if _, e := gone.Read("own", 0, 1); e != api.ErrCorrupt {
			t.Error("what isn't needed any longer", e)
		}
		do(t, r, repo.Work{What: repo.Forget, Seq: 3})
		do(t, r, repo.Work{What: repo.Prune})
		do(t, r, repo.Work{What: repo.Forget, Seq: 5})
		do(t, o, repo.Work{What: repo.Prune}) // twice, without a look
		check("pruned again")
		do(t, r, repo.Work{What: repo.Forget, Seq: 2})
		check("forgotten")
		do(t, r, repo.Work{What: repo.Prune})
		for _, x := range []*mount.Mount{m, k} {
			_, corrupt := checkHonest(t, "gone", x, half)
			if l, e := x.List(""); l != nil || e != api.ErrCorrupt || corrupt < 100 {
				t.Error("gone", l, e, corrupt)
			}
		}
		backup(t, o, 10, half)
		check("saved once more")
	}
}

// Diff looks for what was moved, too.
func TestDiffBehindPrune(t *testing.T) {
	a, b := append(many(40), plain()...), append(many(45)[5:], deep(4)...)
	_, r := created(t, by(7, 400), many(80), a, b)
	m, k := mounted(t, r, 2), mounted(t, r, 3)
	do(t, r, repo.Work{What: repo.Forget, Seq: 1})
	do(t, r, repo.Work{What: repo.Prune})
	checkDiff(t, "pruned", m, k, diffOf(a, b))
	do(t, r, repo.Work{What: repo.Forget, Seq: 3})
	do(t, r, repo.Work{What: repo.Prune})
	checkNoDiff(t, "gone", m, k, api.ErrCorrupt)
	checkNoDiff(t, "gone", k, m, api.ErrCorrupt)
}

// A call that refuses has changed nothing: the mount knows all that it knew ahead, whatever it was told in the meantime.
func TestRefusedKeepsWhatItKnew(t *testing.T) {
	p, r := created(t, by(7, 1), plain())
	m := mounted(t, r, 1)
	was := p.objects()
	for name := range was {
		if strings.HasPrefix(name, "p/") || strings.HasPrefix(name, "x/") {
			p.steal(name)
		}
	}
	if _, corrupt := checkHonest(t, "stolen", m, plain()); corrupt < 100 {
		t.Error(corrupt)
	}
	for name, b := range was {
		if !strings.HasPrefix(name, "x/") {
			p.forge(name, b)
		}
	}
	checkAll(t, "laid back, without indexes", m, plain())
}

// needs: the packs that a look at a path needs, in a place in which each blob has a pack of its own: of the directories on the way,
// of the one that it leads to, of a file's pieces.
func needs(t *testing.T, r *repo.Repo, path string) (way, dirs, pieces []string) {
	t.Helper()
	s, snaps, e := r.Saver()
	checkErrno(t, "Saver", e, api.OK)
	pack := func(id api.Id) string {
		x, ok := s.Find(id)
		if !ok {
			t.Fatal("no blob")
		}
		return x.Pack
	}
	names, e := tree.Split(path)
	checkErrno(t, "Split", e, api.OK)
	n := node.Node{Kind: api.Dir, Tree: snaps[0].Root}
	for _, name := range names {
		way = append(way, pack(n.Tree))
		l, e := s.Dir(n.Tree)
		checkErrno(t, "Dir", e, api.OK)
		n, _ = node.Find(name, l...)
	}
	if n.Kind == api.Dir {
		dirs = []string{pack(n.Tree)}
	}
	for _, id := range n.Parts {
		pieces = append(pieces, pack(id))
	}
	return way, dirs, pieces
}

// Just what one looks at is read: of all packs but those nothing is needed, and each of those is.
func TestReadsNoMore(t *testing.T) {
	p, r := created(t, by(7, 1), plain())
	whole := p.store.Photo()
	all := p.names("p/")
	checkNeeds := func(q question, need ...string) {
		t.Helper()
		m := mounted(t, r, 1)
		for _, name := range all {
			if !slices.Contains(need, name) {
				p.steal(name)
			}
		}
		if got, e := q.ask(m); got != q.want || e != q.e {
			t.Errorf("%s: %q, %d, not %q, %d", q.what, got, e, q.want, q.e)
		}
		p.store.Restore(whole)
		for _, name := range need {
			p.steal(name)
			if got, e := q.ask(m); got != "" || e != api.ErrCorrupt {
				t.Errorf("%s: %q, %d, though something isn't there", q.what, got, e)
			}
			p.store.Restore(whole)
		}
	}
	rows := append([]tree.Row{{Kind: api.Dir}}, tree.Rows(plain()...)...)
	for _, x := range rows {
		way, dirs, pieces := needs(t, r, x.Path)
		item, _ := tree.Find(x.Path, plain()...)
		checkNeeds(stat(x.Path, text(x), api.OK), way...)
		switch x.Kind {
		case api.Dir:
			checkNeeds(list(x.Path, text(kids(x.Path, rows)...), api.OK), append(way, dirs...)...)
		case api.Link:
			checkNeeds(aim(x.Path, item.Data, api.OK), way...)
			checkNeeds(list(x.Path, "", api.ErrArg), way...)
		case api.File:
			checkNeeds(read(x.Path, 0, x.Size, item.Data, api.OK), append(way, pieces...)...)
			checkNeeds(read(x.Path, 0, 0, "", api.OK), way...)
			checkNeeds(read(x.Path, -1, 1, "", api.ErrArg), way...)
			if x.Size > 0 {
				checkNeeds(read(x.Path, 0, 1, item.Data[:1], api.OK), append(way, pieces[0])...)
			}
			checkNeeds(aim(x.Path, "", api.ErrArg), way...)
			checkNeeds(stat(x.Path+"/a", "", api.ErrMiss), way...)
		}
	}
}

// ErrDown of all that reads; what is told without reading is told; behind it all is as it was.
func TestOff(t *testing.T) {
	p, r := created(t, by(7, 300), plain(), deep(3))
	m, k := mounted(t, r, 1), mounted(t, r, 2)
	p.store.Arm(0)
	p.store.Nudge()
	for _, path := range []string{"none", "d", "d/f", "d/f/x", "z"} {
		for _, q := range refused(path, api.ErrDown) {
			if got, e := q.ask(m); got != "" || e != q.e {
				t.Errorf("%s: %q, %d", q.what, got, e)
			}
		}
	}
	for _, q := range []question{stat("", text(tree.Row{Kind: 1}), api.OK), list("", "", api.ErrDown), read("", 0, 1, "", api.ErrArg), aim("", "", api.ErrArg), stat("//", "", api.ErrName)} {
		if got, e := q.ask(m); got != q.want || e != q.e {
			t.Errorf("%s: %q, %d", q.what, got, e)
		}
	}
	checkNoDiff(t, "off", m, k, api.ErrDown)
	checkDiff(t, "off", m, m, nil)
	p.store.Crash()
	checkAll(t, "on", m, plain())
	checkDiff(t, "on", m, k, diffOf(plain(), deep(3)))
}

// Rule 4: answers are new memory.
func TestAnswersAreNew(t *testing.T) {
	_, r := created(t, by(7, 300), plain(), deep(3))
	m, k := mounted(t, r, 1), mounted(t, r, 2)
	for range 2 {
		checkAll(t, "new", m, plain())
		l, _ := m.List("d")
		clear(l[:cap(l)])
		b, _ := m.Read("z", 0, 900)
		clear(b[:cap(b)])
		d, _ := mount.Diff(m, k)
		clear(d[:cap(d)])
		checkDiff(t, "new", m, k, diffOf(plain(), deep(3)))
	}
}
