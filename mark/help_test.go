package mark_test

import (
	"bytes"
	"crypto/hmac"
	"crypto/sha256"
	"fmt"
	"maps"
	"math/rand"
	"slices"
	"strings"
	"testing"

	"hypogeum/api"
	"hypogeum/cell"
	"hypogeum/cut"
	"hypogeum/key"
	"hypogeum/mark"
	"hypogeum/node"
	"hypogeum/save"
	"hypogeum/shelf"
	"hypogeum/vault"
	"hypogeum/wax"
)

// some: bytes that look like chance, the same ones each time.
func some(seed int64, n int) []byte {
	b := make([]byte, n)
	rand.New(rand.NewSource(seed)).Read(b)
	return b
}

func ring() key.Ring {
	return key.Ring{Keys: wax.Keys{Hide: [32]byte(some(3, 32)), Mark: [32]byte(some(4, 32))}, Name: [32]byte(some(5, 32))}
}

// rule: one by which files of some hundred bytes have pieces.
func rule() cut.Rule {
	return cut.Rule{Least: 64, Most: 200, Bits: 5, Poly: 0x3da3358b4dc173}
}

func newShelf(t *testing.T) *shelf.Shelf {
	t.Helper()
	s, e := shelf.New(1 << 28)
	if e != api.OK {
		t.Fatal("shelf.New", e)
	}
	return s
}

// saver: one of a vault of that store.
func saver(t *testing.T, s *shelf.Shelf, begin string, target int) save.Saver {
	t.Helper()
	v, e := vault.Open(s, key.Pen{Ring: ring(), Tape: cell.Wind([]byte(begin))}, target)
	if e != api.OK {
		t.Fatal("Open", e)
	}
	return save.Saver{Vault: v, Rule: rule()}
}

func file(name string, data []byte) api.Item {
	return api.Item{Name: name, Kind: api.File, Data: string(data)}
}

func dir(name string, kids ...api.Item) api.Item {
	return api.Item{Name: name, Kind: api.Dir, Kids: kids}
}

func link(name, aim string) api.Item {
	return api.Item{Name: name, Kind: api.Link, Data: aim}
}

// trees: some that a directory may have, the same ones each time.
func trees() [][]api.Item {
	l := [][]api.Item{nil, {file("a", nil)}, {dir("a")}, {link("l", "aim")}, {dir("b", dir("c"), file("d", some(9, 500))), link("a", "b/c")}, {file("b", some(9, 500)), file("a", some(9, 500)), dir("c")}}
	chance := rand.New(rand.NewSource(1))
	for range 25 {
		l = append(l, chancy(chance, 4))
	}
	return l
}

func chancy(chance *rand.Rand, levels int) []api.Item {
	var l []api.Item
	for i := range chance.Intn(6) {
		name := fmt.Sprintf("%c%d", 'a'+chance.Intn(26), i)
		switch chance.Intn(4) {
		case 0:
			l = append(l, link(name, strings.Repeat("t", 1+chance.Intn(5))))
		case 1:
			if levels > 1 {
				l = append(l, dir(name, chancy(chance, levels-1)...))
				break
			}
			fallthrough
		default:
			// Few beginnings: so that pieces come twice.
			l = append(l, file(name, some(int64(chance.Intn(3)), chance.Intn(700))))
		}
	}
	return l
}

// idOf: a blob's name, by the document's words.
func idOf(kind int, b []byte) api.Id {
	r := ring()
	h := hmac.New(sha256.New, r.Name[:])
	h.Write([]byte{byte(kind)})
	h.Write(b)
	return api.Id(h.Sum(nil))
}

// words is what a set has by the document's words.
type words map[api.Id]int

// dir: what a tree needs is in it; the tree's name.
func (w words) dir(t *testing.T, l []api.Item) api.Id {
	t.Helper()
	var nodes []node.Node
	for _, x := range slices.SortedFunc(slices.Values(l), func(a, b api.Item) int { return strings.Compare(a.Name, b.Name) }) {
		n := node.Node{Name: x.Name, Kind: x.Kind, Mode: x.Mode, Time: x.Time}
		switch x.Kind {
		case api.File:
			sizes, e := cut.Sizes(rule(), []byte(x.Data))
			checkErrno(t, "Sizes", e, api.OK)
			n.Size = len(x.Data)
			rest := []byte(x.Data)
			for _, size := range sizes {
				n.Parts = append(n.Parts, w.put(1, rest[:size]))
				rest = rest[size:]
			}
		case api.Dir:
			n.Tree = w.dir(t, x.Kids)
		case api.Link:
			n.Target = x.Data
		}
		nodes = append(nodes, n)
	}
	b, e := node.Encode(nodes...)
	checkErrno(t, "Encode", e, api.OK)
	return w.put(2, b)
}

func (w words) put(kind int, b []byte) api.Id {
	id := idOf(kind, b)
	w[id] = kind
	return id
}

func compare(a, b api.Id) int { return bytes.Compare(a[:], b[:]) }

// names: all of them, rising.
func (w words) names() []api.Id {
	return slices.SortedFunc(maps.Keys(w), compare)
}

func checkErrno(t *testing.T, what string, e, want api.Errno) {
	t.Helper()
	if e != want {
		t.Errorf("%s: %d, not %d", what, e, want)
	}
}

// checkSet: the set has just these, of these kinds.
func checkSet(t *testing.T, what string, s *mark.Set, want words) {
	t.Helper()
	if s.Count() != len(want) || !slices.Equal(s.Ids(), want.names()) {
		t.Errorf("%s: %d names, not %d", what, s.Count(), len(want))
	}
	for id, kind := range want {
		if !s.Has(id) || s.Kind(id) != kind {
			t.Errorf("%s: %x: %v, %d, not %d", what, id[:3], s.Has(id), s.Kind(id), kind)
		}
	}
	for _, id := range []api.Id{{31: 77}, idOf(3, nil)} {
		if s.Has(id) || s.Kind(id) != 0 {
			t.Errorf("%s: %x is there", what, id[:3])
		}
	}
}

// saved: a tree is, and committed.
func saved(t *testing.T, s save.Saver, l ...api.Item) api.Id {
	t.Helper()
	id, e := s.Save(l...)
	checkErrno(t, "Save", e, api.OK)
	checkErrno(t, "Commit", s.Commit(), api.OK)
	return id
}

// put: a blob, whatever it is.
func put(t *testing.T, s save.Saver, kind int, b []byte) api.Id {
	t.Helper()
	id, _, e := s.Put(kind, b)
	checkErrno(t, "Put", e, api.OK)
	return id
}

// putNodes: a directory of these nodes.
func putNodes(t *testing.T, s save.Saver, l ...node.Node) api.Id {
	t.Helper()
	b, e := node.Encode(l...)
	checkErrno(t, "Encode", e, api.OK)
	return put(t, s, 2, b)
}

// reached: what these trees need.
func reached(t *testing.T, s save.Saver, roots ...api.Id) *mark.Set {
	t.Helper()
	need, e := mark.Reach(s, roots...)
	if need == nil || e != api.OK {
		t.Fatal("Reach", e)
	}
	return need
}

// checkUnreached: this error, and nothing beside it.
func checkUnreached(t *testing.T, what string, s save.Saver, want api.Errno, roots ...api.Id) {
	t.Helper()
	if need, e := mark.Reach(s, roots...); need != nil || e != want {
		t.Errorf("%s: Reach: %v, %d, not %d", what, need.Count(), e, want)
	}
}

// checkLost: just these are lost.
func checkLost(t *testing.T, what string, s save.Saver, set *mark.Set, want ...api.Id) {
	t.Helper()
	want = slices.SortedFunc(slices.Values(want), compare)
	if lost, e := mark.Lost(s, set); e != api.OK || !slices.Equal(lost, want) {
		t.Errorf("%s: Lost: %d, not %d, %d", what, len(lost), len(want), e)
	}
}

// off: the power goes.
func off(s *shelf.Shelf) {
	s.Arm(0)
	s.Nudge()
}
