package prune_test

import (
	"bytes"
	"crypto/hmac"
	"crypto/sha256"
	"encoding/hex"
	"fmt"
	"maps"
	"math/rand"
	"slices"
	"strings"
	"testing"

	"hypogeum/api"
	"hypogeum/cell"
	"hypogeum/cut"
	"hypogeum/index"
	"hypogeum/key"
	"hypogeum/mark"
	"hypogeum/node"
	"hypogeum/pack"
	"hypogeum/prune"
	"hypogeum/save"
	"hypogeum/shelf"
	"hypogeum/tree"
	"hypogeum/vault"
	"hypogeum/wax"
)

const room = 1 << 28

// some: bytes that look like chance, the same ones each time.
func some(seed int64, n int) []byte {
	b := make([]byte, n)
	rand.New(rand.NewSource(seed)).Read(b)
	return b
}

func ring() key.Ring {
	return key.Ring{Keys: wax.Keys{Hide: [32]byte(some(3, 32)), Mark: [32]byte(some(4, 32))}, Name: [32]byte(some(5, 32))}
}

func pen(begin string) key.Pen {
	return key.Pen{Ring: ring(), Tape: cell.Wind([]byte(begin))}
}

// rule: one by which files of some hundred bytes have pieces.
func rule() cut.Rule {
	return cut.Rule{Least: 64, Most: 200, Bits: 5, Poly: 0x3da3358b4dc173}
}

func newShelf(t *testing.T, room int) *shelf.Shelf {
	t.Helper()
	s, e := shelf.New(room)
	if e != api.OK {
		t.Fatal("shelf.New", e)
	}
	return s
}

// saver: one of a vault of that store, with a tape of this beginning.
func saver(t *testing.T, s *shelf.Shelf, begin string, target int) save.Saver {
	t.Helper()
	v, e := vault.Open(s, pen(begin), target)
	if e != api.OK {
		t.Fatal("Open", e)
	}
	return save.Saver{Vault: v, Rule: rule()}
}

// idOf: a blob's name, by the document's words.
func idOf(kind int, b []byte) api.Id {
	r := ring()
	h := hmac.New(sha256.New, r.Name[:])
	h.Write([]byte{byte(kind)})
	h.Write(b)
	return api.Id(h.Sum(nil))
}

// digits: the first 40 of what bytes sum up to.
func digits(b []byte) string {
	s := sha256.Sum256(b)
	return hex.EncodeToString(s[:20])
}

func compare(a, b api.Id) int { return bytes.Compare(a[:], b[:]) }

func checkErrno(t *testing.T, what string, e, want api.Errno) {
	t.Helper()
	if e != want {
		t.Errorf("%s: %d, not %d", what, e, want)
	}
}

// objects: all that the store has.
func objects(t *testing.T, s *shelf.Shelf) map[string]string {
	t.Helper()
	m := map[string]string{}
	for _, name := range names(t, s, "") {
		b, e := s.Get(name)
		if e != api.OK {
			t.Fatal("Get", name, e)
		}
		m[name] = string(b)
	}
	return m
}

func names(t *testing.T, s *shelf.Shelf, prefix string) []string {
	t.Helper()
	l, e := s.List(prefix)
	if e != api.OK {
		t.Fatal("List", e)
	}
	return l
}

// checkObjects: the store has just these.
func checkObjects(t *testing.T, what string, s *shelf.Shelf, want map[string]string) {
	t.Helper()
	if got := objects(t, s); !maps.Equal(got, want) {
		t.Errorf("%s: there are %v, not %v", what, slices.Sorted(maps.Keys(got)), slices.Sorted(maps.Keys(want)))
	}
}

func forge(t *testing.T, s *shelf.Shelf, name, b string) {
	t.Helper()
	if e := s.Forge(name, []byte(b)); e != api.OK {
		t.Fatal("Forge", name, e)
	}
}

// put: a blob, whatever it is.
func put(t *testing.T, s save.Saver, kind int, b []byte) api.Id {
	t.Helper()
	id, _, e := s.Put(kind, b)
	checkErrno(t, "Put", e, api.OK)
	return id
}

// putNodes: a directory of these nodes.
func putNodes(t *testing.T, s save.Saver, l ...node.Node) api.Id {
	t.Helper()
	b, e := node.Encode(l...)
	checkErrno(t, "Encode", e, api.OK)
	return put(t, s, 2, b)
}

// chancy: a tree.
func chancy(chance *rand.Rand, levels int) []api.Item {
	var l []api.Item
	for i := range 1 + chance.Intn(5) {
		x := api.Item{Name: fmt.Sprintf("%c%d", 'a'+chance.Intn(26), i)}
		if chance.Intn(3) == 0 && levels > 1 {
			x.Kind, x.Kids = api.Dir, chancy(chance, levels-1)
		} else {
			// Few beginnings: so that pieces come twice.
			x.Data = string(some(int64(chance.Intn(5)), chance.Intn(600)))
		}
		l = append(l, x)
	}
	return l
}

// place is a store with trees in it.
type place struct {
	t     *testing.T
	store *shelf.Shelf
	roots []api.Id
	trees [][]api.Item
}

// newPlace: a store in which several have saved trees, without knowing of one another: so blobs are there twice.
func newPlace(t *testing.T, seed int64) *place {
	t.Helper()
	p := &place{t: t, store: newShelf(t, room)}
	chance := rand.New(rand.NewSource(seed))
	for i := range 1 + chance.Intn(3) {
		a := p.saver(fmt.Sprint("a", i), []int{1, 200, 700, 800000}[chance.Intn(4)])
		b := p.saver(fmt.Sprint("b", i), []int{1, 200, 700, 800000}[chance.Intn(4)])
		for range 1 + chance.Intn(3) {
			p.save(a, chancy(chance, 3)...)
			p.save(b, chancy(chance, 3)...)
		}
		checkErrno(t, "Commit", a.Commit(), api.OK)
		checkErrno(t, "Commit", b.Commit(), api.OK)
	}
	return p
}

func (p *place) saver(begin string, target int) save.Saver {
	p.t.Helper()
	return saver(p.t, p.store, begin, target)
}

// save: a tree more.
func (p *place) save(s save.Saver, l ...api.Item) api.Id {
	p.t.Helper()
	id, e := s.Save(l...)
	checkErrno(p.t, "Save", e, api.OK)
	p.roots, p.trees = append(p.roots, id), append(p.trees, l)
	return id
}

// litter: what broken off works leave: a pack that no index tells of, drafts.
func (p *place) litter() {
	p.t.Helper()
	s := p.saver("litter", 800000)
	put(p.t, s, 1, []byte("loose"))
	checkErrno(p.t, "Flush", s.Flush(), api.OK)
	forge(p.t, p.store, "t/"+digits([]byte("config")), "draft")
	forge(p.t, p.store, "t/a", "")
	forge(p.t, p.store, "p/a", "no pack")
}

// others: what a Run has nothing to do with.
func (p *place) others() map[string]string {
	p.t.Helper()
	m := map[string]string{}
	for _, name := range []string{"config", "k/00", "l/00-0", "s/00000001", "w/0", "p", "t", "x", "pp/a", "tt/a", "xx/a"} {
		forge(p.t, p.store, name, name)
		m[name] = name
	}
	return m
}

// checkLoads: these of its trees are told as they were saved.
func (p *place) checkLoads(what string, s save.Saver, l ...int) {
	p.t.Helper()
	for _, i := range l {
		if got, e := s.Load(p.roots[i]); e != api.OK || !tree.Same(got, p.trees[i]) {
			p.t.Errorf("%s: Load of %d: %d", what, i, e)
		}
	}
}

// some: the names of these of its trees.
func (p *place) some(l ...int) []api.Id {
	var roots []api.Id
	for _, i := range l {
		roots = append(roots, p.roots[i])
	}
	return roots
}

// half: of its trees some by chance.
func (p *place) half(seed int64) []int {
	chance := rand.New(rand.NewSource(seed))
	var l []int
	for i := range p.roots {
		if chance.Intn(2) == 0 {
			l = append(l, i)
		}
	}
	return l
}

// all: the numbers of all its trees.
func (p *place) all() []int {
	var l []int
	for i := range p.roots {
		l = append(l, i)
	}
	return l
}

// needed: what trees need, and as what.
func needed(t *testing.T, s save.Saver, roots ...api.Id) map[api.Id]int {
	t.Helper()
	need, e := mark.Reach(s, roots...)
	checkErrno(t, "Reach", e, api.OK)
	m := map[api.Id]int{}
	for _, id := range need.Ids() {
		m[id] = need.Kind(id)
	}
	return m
}

// checkPruned: there are packs that have each of these blobs once, and no other one; and one index of them; and no drafts.
func checkPruned(t *testing.T, what string, s *shelf.Shelf, need map[api.Id]int) {
	t.Helper()
	got, packs := map[api.Id]int{}, []index.Pack{}
	for _, name := range names(t, s, "p/") {
		b, _ := s.Get(name)
		l, e := pack.Entries(ring(), b)
		if e != api.OK || name != "p/"+digits(b) {
			t.Errorf("%s: %s is no pack: %d", what, name, e)
		}
		packs = append(packs, index.Pack{Name: name, Entries: l})
		for _, x := range l {
			if _, e := pack.Blob(ring(), b, x); e != api.OK || got[x.Id] != 0 {
				t.Errorf("%s: %x: %d, or twice", what, x.Id[:3], e)
			}
			got[x.Id] = x.Kind
		}
	}
	if !maps.Equal(got, need) {
		t.Errorf("%s: %d blobs, not %d", what, len(got), len(need))
	}
	files, drafts := names(t, s, "x/"), names(t, s, "t/")
	if len(files) != 1 || len(drafts) != 0 {
		t.Fatalf("%s: there are %v and %v", what, files, drafts)
	}
	b, _ := s.Get(files[0])
	if f, e := index.Read(ring(), b); e != api.OK || !alikePacks(f.Packs, packs) || files[0] != "x/"+digits(b) {
		t.Errorf("%s: the index has %d packs of %d, %d", what, len(f.Packs), len(packs), e)
	}
}

// alikePacks: are these the same packs in the same order?
func alikePacks(a, b []index.Pack) bool {
	return slices.EqualFunc(a, b, func(a, b index.Pack) bool { return a.Name == b.Name && slices.Equal(a.Entries, b.Entries) })
}

func alike(a, b prune.Plan) bool {
	return alikePacks(a.Stay, b.Stay) && slices.Equal(a.Move, b.Move) && slices.Equal(a.Gone, b.Gone)
}

// byName: packs, rising; of one name in their order.
func byName(l []index.Pack) []index.Pack {
	return slices.SortedStableFunc(slices.Values(l), func(a, b index.Pack) int { return strings.Compare(a.Name, b.Name) })
}

// planOf: the plan by the document's words.
func planOf(need map[api.Id]int, packs []index.Pack) prune.Plan {
	var l []index.Pack
	for _, p := range byName(packs) {
		if n := len(l); n > 0 && l[n-1].Name == p.Name {
			l[n-1] = p
		} else {
			l = append(l, p)
		}
	}
	home := map[api.Id]string{}
	for _, p := range slices.Backward(l) { // the least name is written last
		for _, x := range p.Entries {
			if kind, ok := need[x.Id]; ok && kind == x.Kind {
				home[x.Id] = p.Name
			}
		}
	}
	isHome := func(p index.Pack, x pack.Entry) bool {
		kind, ok := need[x.Id]
		return ok && kind == x.Kind && home[x.Id] == p.Name
	}
	var plan prune.Plan
	for _, p := range l {
		if !slices.ContainsFunc(p.Entries, func(x pack.Entry) bool { return !isHome(p, x) }) {
			plan.Stay = append(plan.Stay, p)
			continue
		}
		plan.Gone = append(plan.Gone, p.Name)
		for _, x := range p.Entries {
			if isHome(p, x) {
				plan.Move = append(plan.Move, index.Place{Pack: p.Name, Entry: x})
			}
		}
	}
	return plan
}

// run: a Run that answers the plan by the document's words.
func run(t *testing.T, what string, s save.Saver, roots ...api.Id) prune.Plan {
	t.Helper()
	want := planOf(needed(t, s, roots...), s.Packs())
	plan, e := prune.Run(s, roots...)
	if e != api.OK || !alike(plan, want) {
		t.Errorf("%s: Run: %d packs stay, not %d; %d blobs are moved, not %d; %d", what, len(plan.Stay), len(want.Stay), len(plan.Move), len(want.Move), e)
	}
	return plan
}

// checkNoRun: Run answers this error, and nothing beside it.
func checkNoRun(t *testing.T, what string, s save.Saver, want api.Errno, roots ...api.Id) {
	t.Helper()
	if p, e := prune.Run(s, roots...); p.Stay != nil || p.Move != nil || p.Gone != nil || e != want {
		t.Errorf("%s: Run: %d, %d, %d, %d, not %d", what, len(p.Stay), len(p.Move), len(p.Gone), e, want)
	}
}

// foretold: what the store has behind a Run by a pen with a tape of this beginning, by the document's words.
func foretold(t *testing.T, store *shelf.Shelf, s save.Saver, begin string, roots ...api.Id) map[string]string {
	t.Helper()
	plan := planOf(needed(t, s, roots...), s.Packs())
	was, want := objects(t, store), map[string]string{}
	for name, b := range was {
		if !strings.HasPrefix(name, "p/") && !strings.HasPrefix(name, "x/") && !strings.HasPrefix(name, "t/") {
			want[name] = b
		}
	}
	packs := slices.Clone(plan.Stay)
	for _, p := range packs {
		want[p.Name] = was[p.Name]
	}
	q := pen(begin)
	w := pack.New(q)
	closeIt := func() {
		name, b, l, e := w.Close()
		checkErrno(t, "Close", e, api.OK)
		packs, want[name] = append(packs, index.Pack{Name: name, Entries: l}), string(b)
	}
	for _, x := range plan.Move {
		b, e := s.Get(x.Kind, x.Id)
		checkErrno(t, "Get", e, api.OK)
		_, _, e = w.Add(x.Kind, b)
		if e == api.ErrFull {
			closeIt()
			_, _, e = w.Add(x.Kind, b)
		}
		checkErrno(t, "Add", e, api.OK)
	}
	if w.Count() > 0 {
		closeIt()
	}
	packs = byName(packs)
	if l := s.Files(); len(l) == 1 {
		f, e := index.Read(ring(), []byte(was[l[0]]))
		checkErrno(t, "Read", e, api.OK)
		if alikePacks(f.Packs, packs) {
			want[l[0]] = was[l[0]]
			return want
		}
	}
	name, b, e := index.Write(q, index.File{Packs: packs, Old: s.Files()})
	checkErrno(t, "Write", e, api.OK)
	want[name] = string(b)
	return want
}
