package crew_test

import (
	"fmt"
	"maps"
	"math/rand"
	"slices"
	"strings"
	"testing"

	"hypogeum/api"
	"hypogeum/crew"
	"hypogeum/cut"
	"hypogeum/mark"
	"hypogeum/repo"
	"hypogeum/tree"
)

const room = 1 << 28

// some: bytes that look like chance, the same ones each time.
func some(seed int64, n int) string {
	b := make([]byte, n)
	rand.New(rand.NewSource(seed)).Read(b)
	return string(b)
}

func file(name string, data string) api.Item { return api.Item{Name: name, Data: data} }

func dir(name string, l ...api.Item) api.Item {
	return api.Item{Name: name, Kind: api.Dir, Mode: 0o755, Kids: l}
}

// first, second: trees that are unlike, but have much in common.
func first() []api.Item {
	return []api.Item{dir("d", file("f", "abc"), api.Item{Name: "l", Kind: api.Link, Data: "f"}), file("z", some(1, 900))}
}

func second() []api.Item {
	return []api.Item{dir("d", file("f", "abc"), api.Item{Name: "l", Kind: api.Link, Data: "f"}), file("own", some(2, 700)), file("y", some(1, 900))}
}

// chancy: a tree by chance, of few bytes that stand in many.
func chancy(chance *rand.Rand, levels int) []api.Item {
	var l []api.Item
	for i := range chance.Intn(4) {
		name := fmt.Sprintf("%c%d", 'a'+chance.Intn(26), i)
		if chance.Intn(3) == 0 && levels > 1 {
			l = append(l, dir(name, chancy(chance, levels-1)...))
		} else {
			l = append(l, file(name, some(int64(chance.Intn(6)), chance.Intn(900))))
		}
	}
	return l
}

// config: that of a client of a number, by the document's words.
func config(number int) repo.Config {
	return repo.Config{Word: "crew", Client: number, Rule: cut.Rule{Least: 64, Most: 400, Bits: 6, Poly: 0x3DA3358B4DC173}, Target: 500}
}

func newCrew(t *testing.T, count int) *crew.Crew {
	t.Helper()
	c, e := crew.New(count, room, []byte("begin"))
	if c == nil || e != api.OK {
		t.Fatal("New", e)
	}
	return c
}

func checkErrno(t *testing.T, what string, e, want api.Errno) {
	t.Helper()
	if e != want {
		t.Fatalf("%s: %d, not %d", what, e, want)
	}
}

func isEmpty(a repo.Answer) bool {
	return a.Seq == 0 && len(a.Snaps) == 0 && len(a.Items) == 0 && len(a.Lost) == 0
}

func begin(t *testing.T, c *crew.Crew, who int, w repo.Work) {
	t.Helper()
	checkErrno(t, fmt.Sprint("Begin ", who), c.Begin(who, w), api.OK)
	if !c.Busy(who) {
		t.Fatal("it isn't busy")
	}
}

// steps: so many, none of which is the last one.
func steps(t *testing.T, c *crew.Crew, who, n int) {
	t.Helper()
	for i := range n {
		if a, last, e := c.Step(who); last || e != api.OK || !isEmpty(a) {
			t.Fatalf("step %d of %d: %v, %v, %d", i, who, a, last, e)
		}
	}
}

// finish: all steps that are left; what came of them.
func finish(c *crew.Crew, who int) (repo.Answer, api.Errno) {
	for {
		if a, last, e := c.Step(who); last {
			return a, e
		}
	}
}

// do: work that is begun and finished, and answers OK.
func do(t *testing.T, c *crew.Crew, who int, w repo.Work) repo.Answer {
	t.Helper()
	begin(t, c, who, w)
	a, e := finish(c, who)
	checkErrno(t, fmt.Sprint(who, " does ", w.What), e, api.OK)
	return a
}

// checkNot: work that answers this error, and nothing beside it.
func checkNot(t *testing.T, c *crew.Crew, who int, w repo.Work, want api.Errno) {
	t.Helper()
	begin(t, c, who, w)
	if a, e := finish(c, who); e != want || !isEmpty(a) {
		t.Errorf("%d does %d: %v, %d, not %d", who, w.What, a, e, want)
	}
}

func checkHolds(t *testing.T, what string, c *crew.Crew, who int, has, alone bool) {
	t.Helper()
	if h, a := c.Holds(who); h != has || a != alone {
		t.Errorf("%s: Holds(%d): %v, %v", what, who, h, a)
	}
}

// works: one of each kind.
func works(seq int) []repo.Work {
	return []repo.Work{
		{What: repo.Backup, Items: second(), Note: "a note"}, {What: repo.List}, {What: repo.Restore, Seq: seq},
		{What: repo.Forget, Seq: seq}, {What: repo.Prune}, {What: repo.Check},
	}
}

// names: of all objects that begin so.
func names(t *testing.T, c *crew.Crew, prefix string) []string {
	t.Helper()
	l, e := c.Repo(0).Shelf.List(prefix)
	checkErrno(t, "List", e, api.OK)
	return l
}

// objects: all that the store has.
func objects(t *testing.T, c *crew.Crew) map[string]string {
	t.Helper()
	m := map[string]string{}
	for _, name := range names(t, c, "") {
		b, e := c.Repo(0).Get(name)
		checkErrno(t, "Get "+name, e, api.OK)
		m[name] = string(b)
	}
	return m
}

// checkSame: two stores have the same objects.
func checkSame(t *testing.T, what string, got, want map[string]string) {
	t.Helper()
	if !maps.Equal(got, want) {
		t.Errorf("%s: there are %.999q, not %.999q, or they are others", what, slices.Sorted(maps.Keys(got)), slices.Sorted(maps.Keys(want)))
	}
}

// isLock: is it a lock's name, or its draft's?
func isLock(name string) bool { return strings.HasPrefix(name, "l/") || strings.HasPrefix(name, "k/") }

// sorted: are these a tree's items as they are told?
func sorted(a, b []api.Item) bool {
	return tree.Same(a, b) && slices.IsSortedFunc(a, func(x, y api.Item) int { return strings.Compare(x.Name, y.Name) })
}

// seqs: the numbers of snapshots.
func seqs(l []api.Snap) []int {
	var n []int
	for _, x := range l {
		n = append(n, x.Seq)
	}
	return n
}

func checkList(t *testing.T, what string, c *crew.Crew, who int, want ...int) {
	t.Helper()
	if got := seqs(do(t, c, who, repo.Work{What: repo.List}).Snaps); !slices.Equal(got, want) {
		t.Errorf("%s: List of %d: %v, not %v", what, who, got, want)
	}
}

func checkRestore(t *testing.T, what string, c *crew.Crew, who, seq int, want []api.Item) {
	t.Helper()
	if a := do(t, c, who, repo.Work{What: repo.Restore, Seq: seq}); !sorted(a.Items, want) {
		t.Errorf("%s: Restore %d of %d: %d items", what, seq, who, len(a.Items))
	}
}

// checkPruned: behind a Prune just what is needed is there, and no locks or drafts.
func checkPruned(t *testing.T, what string, c *crew.Crew) {
	t.Helper()
	s, snaps, e := c.Repo(0).Saver()
	checkErrno(t, what, e, api.OK)
	var roots []api.Id
	for _, x := range snaps {
		roots = append(roots, x.Root)
	}
	need, e := mark.Reach(s, roots...)
	checkErrno(t, what, e, api.OK)
	n := 0
	for _, p := range s.Packs() {
		n += len(p.Entries)
	}
	if !slices.Equal(need.Ids(), s.Ids()) || n != need.Count() || len(names(t, c, "p/")) != len(s.Packs()) || len(names(t, c, "x/")) != 1 || len(names(t, c, "t/")) != 0 {
		t.Errorf("%s: %d blobs are needed, %d are there, %d times", what, need.Count(), len(s.Ids()), n)
	}
}
