package save_test

import (
	"crypto/hmac"
	"crypto/sha256"
	"fmt"
	"math/rand"
	"slices"
	"strings"
	"testing"

	"hypogeum/api"
	"hypogeum/cell"
	"hypogeum/cut"
	"hypogeum/key"
	"hypogeum/node"
	"hypogeum/save"
	"hypogeum/shelf"
	"hypogeum/vault"
	"hypogeum/wax"
)

const prime = 0x3da3358b4dc173

// some: bytes that look like chance, the same ones each time.
func some(seed int64, n int) []byte {
	b := make([]byte, n)
	rand.New(rand.NewSource(seed)).Read(b)
	return b
}

func ring() key.Ring {
	return key.Ring{Keys: wax.Keys{Hide: [32]byte(some(3, 32)), Mark: [32]byte(some(4, 32))}, Name: [32]byte(some(5, 32))}
}

// small: a rule by which files of some hundred bytes have pieces.
func small() cut.Rule {
	return cut.Rule{Least: 64, Most: 200, Bits: 5, Poly: prime}
}

func rules() []cut.Rule {
	return []cut.Rule{small(), {Least: 64, Most: 64, Bits: 20, Poly: prime}, {Least: 64, Most: 65536, Bits: 1, Poly: 1 << 24}, {Least: 100, Most: 300, Bits: 4, Poly: prime}}
}

func newShelf(t *testing.T) *shelf.Shelf {
	t.Helper()
	s, e := shelf.New(1 << 28)
	if e != api.OK {
		t.Fatal("shelf.New", e)
	}
	return s
}

// saver: one of a vault of that store.
func saver(t *testing.T, s *shelf.Shelf, begin string, target int, r cut.Rule) save.Saver {
	t.Helper()
	v, e := vault.Open(s, key.Pen{Ring: ring(), Tape: cell.Wind([]byte(begin))}, target)
	if e != api.OK {
		t.Fatal("Open", e)
	}
	return save.Saver{Vault: v, Rule: r}
}

func file(name string, data []byte) api.Item {
	return api.Item{Name: name, Kind: api.File, Mode: 0o644, Time: 7, Data: string(data)}
}

func dir(name string, kids ...api.Item) api.Item {
	return api.Item{Name: name, Kind: api.Dir, Mode: 0o755, Time: 8, Kids: kids}
}

func link(name, aim string) api.Item {
	return api.Item{Name: name, Kind: api.Link, Mode: 0o777, Time: 9, Data: aim}
}

// trees: some that a directory may have, the same ones each time; not sorted.
func trees() [][]api.Item {
	l := [][]api.Item{nil, {}, {file("a", nil)}, {dir("a")}, {dir("b", dir("c"), file("d", some(9, 500))), link("a", "b/c")}, {file("b", some(9, 500)), file("a", some(9, 500))}}
	chance := rand.New(rand.NewSource(1))
	for range 25 {
		l = append(l, chancy(chance, 4))
	}
	return l
}

func chancy(chance *rand.Rand, levels int) []api.Item {
	var l []api.Item
	for i := range chance.Intn(6) {
		x := api.Item{Name: fmt.Sprintf("%c%d", 'a'+chance.Intn(26), i), Mode: chance.Intn(4096), Time: chance.Intn(1 << 40)}
		switch chance.Intn(4) {
		case 0:
			x.Kind, x.Data = api.Link, strings.Repeat("t", 1+chance.Intn(5))
		case 1:
			if levels > 1 {
				x.Kind, x.Kids = api.Dir, chancy(chance, levels-1)
				break
			}
			fallthrough
		default:
			// Few beginnings: so that pieces come twice.
			x.Kind, x.Data = api.File, string(some(int64(chance.Intn(3)), chance.Intn(700)))
		}
		l = append(l, x)
	}
	return l
}

// idOf: a blob's name, by the document's words.
func idOf(kind int, b []byte) api.Id {
	r := ring()
	h := hmac.New(sha256.New, r.Name[:])
	h.Write([]byte{byte(kind)})
	h.Write(b)
	return api.Id(h.Sum(nil))
}

// words is what a tree is by the document's words: its blobs, in the order in which they are put, each as often as it comes.
type words struct {
	rule  cut.Rule
	blobs []vault.Lump
}

func (w *words) put(kind int, b []byte) api.Id {
	w.blobs = append(w.blobs, vault.Lump{Kind: kind, Bytes: b})
	return idOf(kind, b)
}

// dir: the name of a directory with these items.
func (w *words) dir(t *testing.T, l []api.Item) api.Id {
	t.Helper()
	var nodes []node.Node
	for _, x := range slices.SortedFunc(slices.Values(l), func(a, b api.Item) int { return strings.Compare(a.Name, b.Name) }) {
		n := node.Node{Name: x.Name, Kind: x.Kind, Mode: x.Mode, Time: x.Time}
		switch x.Kind {
		case api.File:
			sizes, e := cut.Sizes(w.rule, []byte(x.Data))
			if e != api.OK {
				t.Fatal("Sizes", e)
			}
			n.Size = len(x.Data)
			rest := []byte(x.Data)
			for _, size := range sizes {
				n.Parts = append(n.Parts, w.put(1, rest[:size]))
				rest = rest[size:]
			}
		case api.Dir:
			n.Tree = w.dir(t, x.Kids)
		case api.Link:
			n.Target = x.Data
		}
		nodes = append(nodes, n)
	}
	b, e := node.Encode(nodes...)
	if e != api.OK {
		t.Fatal("Encode", e)
	}
	return w.put(2, b)
}

// names: those of the blobs, each once, in their order.
func (w *words) names() []api.Id {
	var l []api.Id
	seen := map[api.Id]bool{}
	for _, x := range w.blobs {
		if id := idOf(x.Kind, x.Bytes); !seen[id] {
			seen[id] = true
			l = append(l, id)
		}
	}
	return l
}

func checkErrno(t *testing.T, what string, e, want api.Errno) {
	t.Helper()
	if e != want {
		t.Errorf("%s: %d, not %d", what, e, want)
	}
}

// saved: a tree is, and committed.
func saved(t *testing.T, s save.Saver, l ...api.Item) api.Id {
	t.Helper()
	id, e := s.Save(l...)
	checkErrno(t, "Save", e, api.OK)
	checkErrno(t, "Commit", s.Commit(), api.OK)
	return id
}

// put: a blob, whatever it is.
func put(t *testing.T, s save.Saver, kind int, b []byte) api.Id {
	t.Helper()
	id, _, e := s.Put(kind, b)
	checkErrno(t, "Put", e, api.OK)
	return id
}

// putNodes: a directory of these nodes.
func putNodes(t *testing.T, s save.Saver, l ...node.Node) api.Id {
	t.Helper()
	b, e := node.Encode(l...)
	checkErrno(t, "Encode", e, api.OK)
	return put(t, s, 2, b)
}

// checkNoSave, checkNoLoad: this error, and nothing beside it.
func checkNoSave(t *testing.T, what string, s save.Saver, want api.Errno, l ...api.Item) {
	t.Helper()
	if id, e := s.Save(l...); id != (api.Id{}) || e != want {
		t.Errorf("%s: Save: %x, %d, not %d", what, id, e, want)
	}
}

func checkNoLoad(t *testing.T, what string, s save.Saver, want api.Errno, id api.Id) {
	t.Helper()
	if l, e := s.Load(id); l != nil || e != want {
		t.Errorf("%s: Load: %v, %d, not %d", what, l, e, want)
	}
}
