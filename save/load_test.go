package save_test

import (
	"bytes"
	"fmt"
	"math"
	"slices"
	"testing"

	"hypogeum/api"
	"hypogeum/cut"
	"hypogeum/key"
	"hypogeum/node"
	"hypogeum/save"
	"hypogeum/tree"
	"hypogeum/vault"
)

// checkBytes: these, and no error.
func checkBytes(t *testing.T, what string, s save.Saver, n node.Node, at, count int, want []byte) {
	t.Helper()
	if b, e := s.Bytes(n, at, count); !bytes.Equal(b, want) || e != api.OK {
		t.Errorf("%s: Bytes(%d, %d): %d bytes, not %d, %d", what, at, count, len(b), len(want), e)
	}
}

// checkNoBytes: this error, and nothing beside it.
func checkNoBytes(t *testing.T, what string, s save.Saver, n node.Node, at, count int, want api.Errno) {
	t.Helper()
	if b, e := s.Bytes(n, at, count); b != nil || e != want {
		t.Errorf("%s: Bytes(%d, %d): %d bytes, %d, not %d", what, at, count, len(b), e, want)
	}
}

// nodeOf: a file's, of these pieces, that are put.
func nodeOf(t *testing.T, s save.Saver, size int, pieces ...[]byte) node.Node {
	t.Helper()
	n := node.Node{Name: "f", Size: size}
	for _, b := range pieces {
		n.Parts = append(n.Parts, put(t, s, 1, b))
	}
	return n
}

// P17.1: Bytes of each place and count, of files of each size.
func TestBytes(t *testing.T) {
	s := saver(t, newShelf(t), "t", 300, cut.Rule{Least: 64, Most: 70, Bits: 3, Poly: prime})
	for _, size := range []int{0, 1, 2, 63, 64, 65, 70, 71, 140, 211} {
		data := some(int64(size), size)
		l, e := s.Dir(saved(t, s, file("f", data)))
		checkErrno(t, "Dir", e, api.OK)
		for at := range size + 3 {
			for count := -1; count <= size-at+2; count++ {
				from := min(at, size)
				checkBytes(t, fmt.Sprint(size), s, l[0], at, count, data[from:min(from+max(count, 0), size)])
			}
			checkBytes(t, "all", s, l[0], at, math.MaxInt, data[min(at, size):])
			checkBytes(t, "none", s, l[0], at, math.MinInt, nil)
		}
		checkBytes(t, "far", s, l[0], math.MaxInt, math.MaxInt, nil)
		for _, at := range []int{-1, math.MinInt} {
			for _, count := range []int{-1, 0, 1, math.MaxInt} {
				checkNoBytes(t, "ahead", s, l[0], at, count, api.ErrArg)
			}
		}
	}
}

// P17.1: nodes that aren't a file's, or not in form.
func TestBytesOfNoFile(t *testing.T) {
	s := saver(t, newShelf(t), "t", 300, small())
	id := put(t, s, 1, []byte("a"))
	good := node.Node{Name: "f", Size: 1, Parts: []api.Id{id}}
	checkBytes(t, "good", s, good, 0, 1, []byte("a"))
	for what, change := range map[string]func(n *node.Node){
		"no name": func(n *node.Node) { n.Name = "" }, "a name": func(n *node.Node) { n.Name = "a/b" }, "Mode": func(n *node.Node) { n.Mode = 4096 }, "Time": func(n *node.Node) { n.Time = -1 },
		"Kind": func(n *node.Node) { n.Kind = 3 }, "Size": func(n *node.Node) { n.Size = 1<<20 + 1 }, "no Size": func(n *node.Node) { n.Size = 0 }, "no Parts": func(n *node.Node) { n.Parts = nil },
		"many Parts": func(n *node.Node) { n.Parts = []api.Id{id, id} }, "Target": func(n *node.Node) { n.Target = "t" }, "Tree": func(n *node.Node) { n.Tree[31] = 1 },
		"a directory": func(n *node.Node) { *n = node.Node{Name: "d", Kind: 1} }, "a link": func(n *node.Node) { *n = node.Node{Name: "l", Kind: 2, Target: "t"} }, "nothing": func(n *node.Node) { *n = node.Node{} },
	} {
		n := good
		change(&n)
		for _, at := range []int{0, 1, 5} {
			for _, count := range []int{0, 1} {
				checkNoBytes(t, what, s, n, at, count, api.ErrArg)
			}
		}
	}
}

// P17.1: pieces that don't come to Size: told where what is asked reaches it.
func TestBytesOfOtherSize(t *testing.T) {
	s := saver(t, newShelf(t), "t", 300, small())
	a, b := []byte("0123456789"), []byte("abcdefghij")
	all := append(append([]byte{}, a...), b...)
	for _, size := range []int{2, 5, 9, 10, 11, 15, 19, 21, 25, 100} {
		n := nodeOf(t, s, size, a, b)
		for at := range size + 2 {
			for count := range size + 2 {
				switch {
				case at >= size || count == 0:
					checkBytes(t, "none", s, n, at, count, nil)
				case at+count >= size:
					checkNoBytes(t, "to its end", s, n, at, count, api.ErrCorrupt)
				default:
					checkBytes(t, "ahead of its end", s, n, at, count, all[min(at, 20):min(at+count, 20)])
				}
			}
		}
		checkNoBytes(t, "all", s, n, 0, math.MaxInt, api.ErrCorrupt)
	}
	checkBytes(t, "right", s, nodeOf(t, s, 20, a, b), 0, 20, all)
	checkBytes(t, "right", s, nodeOf(t, s, 30, a, b, a), 15, 10, append(b[5:10:10], a[:5]...))
}

// P17.1: a piece that isn't there, or is of another kind, or empty: told, if it has such bytes, or stands ahead of them.
func TestBytesOfLostPieces(t *testing.T) {
	s := saver(t, newShelf(t), "t", 300, small())
	a, b, c := []byte("0123456789"), []byte("abcdefghij"), []byte("ABCDEFGHIJ")
	whole := nodeOf(t, s, 30, a, b, c)
	all := slices.Concat(a, b, c)
	for what, bad := range map[string]api.Id{"lost": {1}, "a directory": put(t, s, 2, []byte("x")), "empty": put(t, s, 1, nil)} {
		for i := range 3 {
			n := whole
			n.Parts = slices.Clone(whole.Parts)
			n.Parts[i] = bad
			for at := range 32 {
				for count := range 32 {
					end := min(at+count, 30)
					switch {
					case at >= 30 || count == 0:
						checkBytes(t, what, s, n, at, count, nil)
					case end > 10*i:
						checkNoBytes(t, what, s, n, at, count, api.ErrCorrupt)
					default:
						checkBytes(t, what, s, n, at, count, all[at:end])
					}
				}
			}
		}
	}
	// One that is too many.
	for what, more := range map[string]api.Id{"lost": {1}, "empty": put(t, s, 1, nil), "there": whole.Parts[0]} {
		n := whole
		n.Parts = append(slices.Clone(whole.Parts), more)
		checkBytes(t, what, s, n, 0, 29, all[:29])
		checkNoBytes(t, what, s, n, 0, 30, api.ErrCorrupt)
		checkNoBytes(t, what, s, n, 29, 1, api.ErrCorrupt)
	}
}

// P17.1: what lies behind what is asked isn't read.
func TestBytesReadsNoMore(t *testing.T) {
	store := newShelf(t)
	s := saver(t, store, "t", 1, small()) // a pack for each piece
	n := nodeOf(t, s, 30, []byte("0123456789"), []byte("abcdefghij"), []byte("ABCDEFGHIJ"))
	p, _ := s.Find(n.Parts[1])
	store.Steal(p.Pack)
	checkBytes(t, "ahead", s, n, 3, 7, []byte("3456789"))
	checkNoBytes(t, "in it", s, n, 3, 8, api.ErrCorrupt)
	checkNoBytes(t, "behind", s, n, 25, 2, api.ErrCorrupt)
	store.Arm(0)
	store.Nudge()
	checkNoBytes(t, "off", s, n, 3, 7, api.ErrDown)
	checkBytes(t, "off", s, n, 30, 1, nil)
	checkNoBytes(t, "off", s, n, -1, 1, api.ErrArg)
}

// chain: a directory in a directory .., so many deep, with an item in the last one.
func chain(t *testing.T, s save.Saver, depth int, last ...node.Node) api.Id {
	t.Helper()
	id := putNodes(t, s, last...)
	for range depth {
		id = putNodes(t, s, node.Node{Name: "d", Kind: api.Dir, Tree: id})
	}
	return id
}

// P17.1: trees that a directory may not have: too deep, or of too many items; also where few directories come to a great many.
func TestLoadOfTooMuch(t *testing.T) {
	s := saver(t, newShelf(t), "t", 800000, small())
	leaf := node.Node{Name: "l", Kind: api.Link, Target: "t"}
	for depth, want := range map[int]api.Errno{0: api.OK, 63: api.OK, 64: api.ErrCorrupt, 65: api.ErrCorrupt, 200: api.ErrCorrupt} {
		l, e := s.Load(chain(t, s, depth, leaf))
		checkErrno(t, fmt.Sprint(depth), e, want)
		if n, _ := tree.Count(l...); n != depth+1 && want == api.OK || l != nil && want != api.OK {
			t.Error(depth, n)
		}
	}
	for depth, want := range map[int]api.Errno{64: api.OK, 65: api.ErrCorrupt} {
		_, e := s.Load(chain(t, s, depth))
		checkErrno(t, fmt.Sprint(depth, ", empty"), e, want)
	}
	_, e := s.Load(chain(t, s, 63, node.Node{Name: "d", Kind: api.Dir, Tree: api.Id{1}}))
	checkErrno(t, "64 deep, not there", e, api.ErrCorrupt)

	// Each directory has the next one twice.
	id := putNodes(t, s)
	for range 50 {
		id = putNodes(t, s, node.Node{Name: "a", Kind: api.Dir, Tree: id}, node.Node{Name: "b", Kind: api.Dir, Tree: id})
	}
	checkNoLoad(t, "doubled", s, api.ErrCorrupt, id)

	nodes := func(n int) []node.Node {
		var l []node.Node
		for i := range n {
			l = append(l, node.Node{Name: fmt.Sprintf("%05d", i), Kind: api.Link, Target: "t"})
		}
		return l
	}
	for n, want := range map[int]api.Errno{999: api.OK, 1000: api.ErrCorrupt} {
		half := putNodes(t, s, nodes(n)...)
		_, e := s.Load(putNodes(t, s, node.Node{Name: "a", Kind: api.Dir, Tree: half}, node.Node{Name: "b", Kind: api.Dir, Tree: half}))
		checkErrno(t, fmt.Sprint(2*n+2), e, want)
	}
	for n, want := range map[int]api.Errno{1999: api.OK, 2000: api.ErrCorrupt} {
		_, e := s.Load(chain(t, s, 1, nodes(n)...))
		checkErrno(t, fmt.Sprint(n+1), e, want)
	}
	l, e := s.Load(putNodes(t, s, nodes(2000)...))
	if len(l) != 2000 || e != api.OK {
		t.Error(len(l), e)
	}
}

// P17.1, P17.4: a tree of which something isn't there, or doesn't come to its Size, isn't loaded.
func TestLoadOfLost(t *testing.T) {
	s := saver(t, newShelf(t), "t", 800000, small())
	good := nodeOf(t, s, 10, []byte("0123456789"))
	for what, n := range map[string]node.Node{
		"a piece": {Name: "f", Size: 10, Parts: []api.Id{{1}}}, "a directory": {Name: "f", Kind: api.Dir, Tree: api.Id{1}}, "less": {Name: "f", Size: 11, Parts: good.Parts}, "more": {Name: "f", Size: 9, Parts: good.Parts},
		"a piece as a directory": {Name: "f", Kind: api.Dir, Tree: good.Parts[0]}, "a directory as a piece": {Name: "f", Size: 4, Parts: []api.Id{putNodes(t, s)}},
	} {
		for depth := range 3 {
			checkNoLoad(t, what, s, api.ErrCorrupt, chain(t, s, depth, node.Node{Name: "a", Kind: api.Link, Target: "t"}, n))
		}
	}
	l, e := s.Load(putNodes(t, s, good))
	if e != api.OK || len(l) != 1 || l[0].Data != "0123456789" {
		t.Error(l, e)
	}
}

// P17.4: whatever somebody else does to one object: what is loaded is what was saved, or ErrCorrupt.
func TestOthersHands(t *testing.T) {
	store := newShelf(t)
	s := saver(t, store, "t", 400, small())
	l := []api.Item{dir("b", dir("c"), file("d", some(1, 700))), link("a", "b/c"), file("e", some(2, 300)), file("f", some(1, 650))}
	elder := store.Photo()
	id := saved(t, s, l[1:]...)
	between := store.Photo()
	id = saved(t, s, l...)
	whole := store.Photo()
	names, _ := store.List("")
	other := newShelf(t)
	v, e := vault.Open(other, key.Pen{}, 400)
	checkErrno(t, "Open", e, api.OK)
	saved(t, save.Saver{Vault: v, Rule: small()}, l...)
	foreign, _ := other.List("")
	refused := 0
	check := func(what string) {
		t.Helper()
		vaults := []*vault.Vault{s.Vault}
		if v, e := vault.Open(store, s.Pen, 1); e == api.OK {
			vaults = append(vaults, v)
		} else {
			checkErrno(t, what, e, api.ErrCorrupt)
		}
		for _, v := range vaults {
			got, e := save.Saver{Vault: v}.Load(id)
			if e == api.OK && !tree.Same(got, l) || e != api.OK && (e != api.ErrCorrupt || got != nil) {
				t.Errorf("%s: %d", what, e)
			}
			if e != api.OK {
				refused++
			}
		}
		store.Restore(whole)
	}
	for _, name := range names {
		b, _ := store.Get(name)
		store.Steal(name)
		check(name + " stolen")
		for i := 0; i < len(b); i += 7 {
			b[i] ^= 4
			store.Forge(name, b)
			b[i] ^= 4
			check(name + " changed")
		}
		for i := 0; i < len(b); i += 31 {
			store.Forge(name, b[:i])
			check(name + " cut")
		}
		for _, from := range names {
			c, _ := store.Get(from)
			store.Forge(name, c)
			check(name + " from " + from)
		}
		for _, from := range foreign {
			c, _ := other.Get(from)
			store.Forge(name, c)
			check(name + " of somebody else")
		}
	}
	store.Restore(elder)
	check("an elder store")
	store.Restore(between)
	check("a later one")
	if refused < 100 {
		t.Error(refused, "refused")
	}
	if got, e := s.Load(id); e != api.OK || !tree.Same(got, l) {
		t.Error("as it was", e)
	}
}

// Rule 4: answers are new memory, and what is handed in isn't changed.
func TestAnswersAreNew(t *testing.T) {
	s := saver(t, newShelf(t), "t", 300, small())
	data := some(1, 500)
	id := saved(t, s, dir("d", file("f", data)), file("f", data))
	for range 2 {
		l, e := s.Load(id)
		if e != api.OK || len(l) != 2 || l[0].Kids[0].Data != string(data) {
			t.Error(l, e)
		}
		clear(l[0].Kids[:cap(l[0].Kids)])
		clear(l[:cap(l)])
		nodes, e := s.Dir(id)
		if e != api.OK || nodes[1].Size != 500 {
			t.Error(nodes, e)
		}
		parts := slices.Clone(nodes[1].Parts)
		b, e := s.Bytes(nodes[1], 0, 500)
		if e != api.OK || !bytes.Equal(b, data) || !slices.Equal(parts, nodes[1].Parts) {
			t.Error("Bytes", e)
		}
		clear(b[:cap(b)])
		clear(nodes[1].Parts)
		clear(nodes)
	}
}
