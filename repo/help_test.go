package repo_test

import (
	"bytes"
	"crypto/sha256"
	"encoding/binary"
	"encoding/hex"
	"fmt"
	"maps"
	"math/rand"
	"slices"
	"strings"
	"testing"

	"hypogeum/api"
	"hypogeum/cell"
	"hypogeum/cut"
	"hypogeum/key"
	"hypogeum/mark"
	"hypogeum/pack"
	"hypogeum/repo"
	"hypogeum/shelf"
	"hypogeum/tree"
)

const room = 1 << 28

// some: bytes that look like chance, the same ones each time.
func some(seed int64, n int) []byte {
	b := make([]byte, n)
	rand.New(rand.NewSource(seed)).Read(b)
	return b
}

func file(name string, data string) api.Item { return api.Item{Name: name, Data: data} }

func dir(name string, l ...api.Item) api.Item {
	return api.Item{Name: name, Kind: api.Dir, Mode: 0o755, Kids: l}
}

func link(name, aim string) api.Item {
	return api.Item{Name: name, Kind: api.Link, Time: 1 << 40, Data: aim}
}

// trees: some that are unlike, but have much in common.
func trees() [][]api.Item {
	big, own := string(some(1, 900)), string(some(2, 300))
	return [][]api.Item{
		{file("z", big), dir("d", file("f", "abc"), link("l", "../z")), file("a", "")},
		{file("y", big), dir("d", file("f", "abc"), link("l", "../z")), file("own", own)},
		{},
		{dir("e", dir("d", file("f", "abc"), link("l", "../z")), dir("none"))},
	}
}

// chancy: a tree by chance, of few bytes that stand in many.
func chancy(chance *rand.Rand, levels int) []api.Item {
	var l []api.Item
	for i := range chance.Intn(5) {
		name := fmt.Sprintf("%c%d", 'a'+chance.Intn(26), i)
		switch n := chance.Intn(4); {
		case n == 0 && levels > 1:
			l = append(l, dir(name, chancy(chance, levels-1)...))
		case n == 1:
			l = append(l, link(name, "aim"))
		default:
			x := file(name, string(some(int64(chance.Intn(8)), chance.Intn(700))))
			x.Mode, x.Time = chance.Intn(4096), chance.Intn(1<<40+1)
			l = append(l, x)
		}
	}
	return l
}

func config() repo.Config {
	return repo.Config{Word: "a word", Steps: 3, Client: 7, Rule: cut.Rule{Least: 64, Most: 200, Bits: 5, Poly: 0x3da3358b4dc173}, Target: 500}
}

// by: the config of another client.
func by(client int) repo.Config {
	c := config()
	c.Client = client
	return c
}

// place is where backups are.
type place struct {
	t     *testing.T
	store *shelf.Shelf
	cell  *cell.Cell
	clock *cell.Clock
}

func newPlace(t *testing.T, room int) *place {
	t.Helper()
	s, e := shelf.New(room)
	checkErrno(t, "shelf.New", e, api.OK)
	c, e := cell.New(s)
	checkErrno(t, "cell.New", e, api.OK)
	return &place{t, s, c, new(cell.Clock)}
}

// clone: a place with the same objects and the same number.
func (p *place) clone() *place {
	p.t.Helper()
	q := newPlace(p.t, room)
	q.fill(p)
	q.clock.Tick(p.clock.Now())
	return q
}

func (p *place) site(begin string) repo.Site {
	return repo.Site{Shelf: p.store, Cell: p.cell, Clock: p.clock, Begin: []byte(begin)}
}

// create: a hand of client 7, that begins there.
func (p *place) create() *repo.Repo {
	p.t.Helper()
	r, e := repo.Create(p.site("create"), config())
	if r == nil || e != api.OK {
		p.t.Fatal("Create", e)
	}
	return r
}

// open: a hand of a client, with a tape of this beginning.
func (p *place) open(begin string, client int) *repo.Repo {
	p.t.Helper()
	r, e := repo.Open(p.site(begin), by(client))
	if r == nil || e != api.OK {
		p.t.Fatal("Open", begin, e)
	}
	return r
}

// created: a place with backups of these trees; the hand that made them.
func created(t *testing.T, l ...[]api.Item) (*place, *repo.Repo) {
	t.Helper()
	p := newPlace(t, room)
	r := p.create()
	for i, items := range l {
		p.clock.Tick(10)
		backup(t, r, items, i+1)
	}
	return p, r
}

func checkErrno(t *testing.T, what string, e, want api.Errno) {
	t.Helper()
	if e != want {
		t.Fatalf("%s: %d, not %d", what, e, want)
	}
}

// forge, steal: what somebody else does.
func (p *place) forge(name, b string) {
	p.t.Helper()
	checkErrno(p.t, "Forge "+name, p.store.Forge(name, []byte(b)), api.OK)
}

func (p *place) steal(names ...string) {
	p.t.Helper()
	for _, name := range names {
		checkErrno(p.t, "Steal "+name, p.store.Steal(name), api.OK)
	}
}

// names: of all objects that begin so.
func (p *place) names(prefix string) []string {
	p.t.Helper()
	l, e := p.store.List(prefix)
	checkErrno(p.t, "List", e, api.OK)
	return l
}

// objects: all that the store has.
func (p *place) objects() map[string]string {
	p.t.Helper()
	m := map[string]string{}
	for _, name := range p.names("") {
		b, e := p.store.Get(name)
		checkErrno(p.t, "Get "+name, e, api.OK)
		m[name] = string(b)
	}
	return m
}

// checkObjects: the store has just these.
func (p *place) checkObjects(what string, want map[string]string) {
	p.t.Helper()
	want = maps.Clone(want)
	if got := p.objects(); !maps.Equal(got, want) {
		maps.DeleteFunc(got, func(name, b string) bool {
			was, ok := want[name]
			if ok && was == b {
				delete(want, name)
			}
			return ok && was == b
		})
		p.t.Errorf("%s: there are %.2000q, not %.2000q", what, slices.Sorted(maps.Keys(got)), slices.Sorted(maps.Keys(want)))
	}
}

// checkPlaces: there are so many objects that begin with each.
func (p *place) checkPlaces(what string, want map[string]int) {
	p.t.Helper()
	for place, n := range want {
		if l := p.names(place); len(l) != n {
			p.t.Errorf("%s: there are %d, not %d: %v", what, len(l), n, l[:min(len(l), 20)])
		}
	}
}

// digits: the first 40 of what bytes sum up to.
func digits(b []byte) string {
	s := sha256.Sum256(b)
	return hex.EncodeToString(s[:20])
}

// tapeOf: the first n bytes of a hand's tape, by the document's words: of a beginning, a cell's number, a store's Steps.
func tapeOf(begin string, number, steps, n int) []byte {
	head := binary.BigEndian.AppendUint64(binary.BigEndian.AppendUint64([]byte(begin), uint64(number)), uint64(steps))
	var b []byte
	for i := 0; len(b) < n; i++ {
		s := sha256.Sum256(binary.BigEndian.AppendUint64(slices.Clone(head), uint64(i)))
		b = append(b, s[:]...)
	}
	return b[:n]
}

// ring: that of a word, of what the config there says.
func (p *place) ring(word string) key.Ring {
	p.t.Helper()
	b, e := p.store.Get("config")
	if e != api.OK || len(b) < 20 {
		p.t.Fatal("config", e)
	}
	steps, _ := binary.Uvarint(b[19:])
	r, e := key.Make([]byte(word), b[3:19], int(steps))
	checkErrno(p.t, "Make", e, api.OK)
	return r
}

// pen: one of the word there, without a tape.
func pen(p *place) key.Pen { return key.Pen{Ring: p.ring("a word")} }

// do: work that answers OK.
func do(t *testing.T, r *repo.Repo, w repo.Work) repo.Answer {
	t.Helper()
	a, e := r.Do(w)
	if e != api.OK {
		t.Fatalf("Do(%d): %d", w.What, e)
	}
	return a
}

// checkNot: work that answers this error, and nothing beside it.
func checkNot(t *testing.T, what string, r *repo.Repo, w repo.Work, want api.Errno) {
	t.Helper()
	if a, e := r.Do(w); e != want || !isEmpty(a) {
		t.Errorf("%s: Do(%d): %v, %d, not %d", what, w.What, a, e, want)
	}
}

func isEmpty(a repo.Answer) bool {
	return a.Seq == 0 && len(a.Snaps) == 0 && len(a.Items) == 0 && len(a.Lost) == 0
}

func note(seq int) string { return fmt.Sprint("note ", seq) }

// backup: a snapshot that gets this number.
func backup(t *testing.T, r *repo.Repo, items []api.Item, want int) {
	t.Helper()
	if a := do(t, r, repo.Work{What: repo.Backup, Items: items, Note: note(want)}); a.Seq != want || len(a.Snaps)+len(a.Items)+len(a.Lost) != 0 {
		t.Fatalf("Backup: %v, not %d", a, want)
	}
}

// list: the numbers of all snapshots.
func list(t *testing.T, r *repo.Repo) []int {
	t.Helper()
	a := do(t, r, repo.Work{What: repo.List})
	if a.Seq != 0 || len(a.Items)+len(a.Lost) != 0 {
		t.Errorf("List: %v", a)
	}
	return numbers(a.Snaps)
}

func numbers(l []api.Snap) []int {
	var seqs []int
	for _, x := range l {
		seqs = append(seqs, x.Seq)
	}
	return seqs
}

func checkList(t *testing.T, what string, r *repo.Repo, want ...int) {
	t.Helper()
	if got := list(t, r); !slices.Equal(got, want) {
		t.Errorf("%s: List: %v, not %v", what, got, want)
	}
}

// sorted: a tree's items as they are told.
func sorted(a, b []api.Item) bool {
	return slices.EqualFunc(a, tree.Sort(b...), func(x, y api.Item) bool {
		return x.Name == y.Name && x.Kind == y.Kind && x.Mode == y.Mode && x.Time == y.Time && x.Data == y.Data && sorted(x.Kids, y.Kids)
	})
}

// checkRestore: the snapshot is restored as it was saved, sorted.
func checkRestore(t *testing.T, what string, r *repo.Repo, seq int, want []api.Item) {
	t.Helper()
	a, e := r.Do(repo.Work{What: repo.Restore, Seq: seq})
	if e != api.OK || !sorted(a.Items, want) || a.Seq != 0 || len(a.Snaps)+len(a.Lost) != 0 {
		t.Errorf("%s: Restore %d: %d items, %d", what, seq, len(a.Items), e)
	}
}

// checkSnaps: just these snapshots are there, and are restored as they were saved.
func checkSnaps(t *testing.T, what string, r *repo.Repo, want map[int][]api.Item) {
	t.Helper()
	checkList(t, what, r, slices.Sorted(maps.Keys(want))...)
	for seq, items := range want {
		checkRestore(t, what, r, seq, items)
	}
}

// checkWhole: Check tells that nothing is lost.
func checkWhole(t *testing.T, what string, r *repo.Repo) {
	t.Helper()
	if a, e := r.Do(repo.Work{What: repo.Check}); e != api.OK || !isEmpty(a) {
		t.Errorf("%s: Check: %v, %d", what, a, e)
	}
}

// blobs: how often each blob is in packs that are there.
func (p *place) blobs() map[api.Id]int {
	p.t.Helper()
	ring, m := p.ring("a word"), map[api.Id]int{}
	for _, name := range p.names("p/") {
		b, _ := p.store.Get(name)
		l, e := pack.Entries(ring, b)
		if e != api.OK || name != "p/"+digits(b) {
			p.t.Errorf("%s is no pack: %d", name, e)
		}
		for _, x := range l {
			if _, e := pack.Blob(ring, b, x); e != api.OK {
				p.t.Errorf("%s: %x: %d", name, x.Id[:3], e)
			}
			m[x.Id]++
		}
	}
	return m
}

// checkPruned: P21.4: just the blobs that snapshots need are there, once each; and one index, no drafts, no records that don't count.
func (p *place) checkPruned(what string, r *repo.Repo) {
	p.t.Helper()
	s, snaps, e := r.Saver()
	checkErrno(p.t, what, e, api.OK)
	var roots []api.Id
	for _, x := range snaps {
		roots = append(roots, x.Root)
	}
	need, e := mark.Reach(s, roots...)
	checkErrno(p.t, what, e, api.OK)
	got := p.blobs()
	for id, n := range got {
		if n != 1 || !need.Has(id) {
			p.t.Errorf("%s: %x is there %d times; needed: %v", what, id[:3], n, need.Has(id))
		}
	}
	if len(got) != need.Count() {
		p.t.Errorf("%s: %d blobs, not %d", what, len(got), need.Count())
	}
	n, _ := p.cell.Read()
	p.checkPlaces(what, map[string]int{"x/": 1, "t/": 0, "s/": n})
}

// pruned: a Prune that leaves just what is needed.
func (p *place) pruned(what string, r *repo.Repo) {
	p.t.Helper()
	if a, e := r.Do(repo.Work{What: repo.Prune}); e != api.OK || !isEmpty(a) {
		p.t.Errorf("%s: Prune: %v, %d", what, a, e)
	}
	p.checkPruned(what, r)
}

// isLock: is it a lock's name, or its draft's?
func isLock(name string) bool { return strings.HasPrefix(name, "l/") || strings.HasPrefix(name, "k/") }

// withoutLocks: objects, but for locks and their drafts.
func withoutLocks(m map[string]string) map[string]string {
	m = maps.Clone(m)
	maps.DeleteFunc(m, func(name, _ string) bool { return isLock(name) })
	return m
}

func compare(a, b api.Id) int { return bytes.Compare(a[:], b[:]) }
