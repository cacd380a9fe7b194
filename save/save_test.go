package save_test

import (
	"bytes"
	"fmt"
	"slices"
	"strings"
	"testing"

	"hypogeum/api"
	"hypogeum/cut"
	"hypogeum/node"
	"hypogeum/save"
	"hypogeum/tree"
	"hypogeum/vault"
)

// P17.1: the document's examples.
func TestExamples(t *testing.T) {
	s := saver(t, newShelf(t), "t", 1000, small())
	if id, e := s.Save(); id != idOf(2, []byte{0x48, 0x59, 0x6e, 0}) || e != api.OK {
		t.Error(id, e)
	}
	id, e := s.Save(file("b", some(1, 500)), file("a", some(1, 500)))
	checkErrno(t, "Save", e, api.OK)
	l, e := s.Dir(id)
	if e != api.OK || len(l) != 2 || len(l[0].Parts) < 2 || !slices.Equal(l[0].Parts, l[1].Parts) {
		t.Error(l, e)
	}
}

// P17.1: a tree's name, and its blobs in their order, are those of the document's words.
func TestSave(t *testing.T) {
	for _, r := range rules() {
		for i, l := range trees() {
			store := newShelf(t)
			s := saver(t, store, "t", 800000, r)
			w := words{rule: r}
			want := w.dir(t, l)
			if id, e := s.Save(l...); id != want || e != api.OK {
				t.Errorf("tree %d: %x, %d", i, id, e)
			}
			if got, _ := store.List(""); len(got) != 0 {
				t.Error("committed:", got)
			}
			checkErrno(t, "Flush", s.Flush(), api.OK)
			var got []api.Id
			for _, p := range s.Packs() {
				for _, x := range p.Entries {
					got = append(got, x.Id)
				}
			}
			if !slices.Equal(got, w.names()) {
				t.Errorf("tree %d: blobs %x, not %x", i, got, w.names())
			}
		}
	}
}

// P17.2: what was saved is loaded, sorted: as it waits, as it is kept, and by another vault.
func TestLoad(t *testing.T) {
	for _, r := range rules() {
		for _, target := range []int{1, 300, 800000} {
			store := newShelf(t)
			s := saver(t, store, "t", target, r)
			ids := map[int]api.Id{}
			check := func(what string, s save.Saver) {
				t.Helper()
				for i, l := range trees() {
					if got, e := s.Load(ids[i]); e != api.OK || !slices.EqualFunc(got, tree.Sort(l...), equal) {
						t.Errorf("%s: tree %d: %v, %d", what, i, got, e)
					}
				}
			}
			for i, l := range trees() {
				var e api.Errno
				ids[i], e = s.Save(l...)
				checkErrno(t, "Save", e, api.OK)
			}
			check("not committed", s)
			checkErrno(t, "Commit", s.Commit(), api.OK)
			check("committed", s)
			check("another vault", saver(t, store, "u", 1, cut.Rule{}))
		}
	}
}

// equal: are both the same, as they stand?
func equal(a, b api.Item) bool {
	return a.Name == b.Name && a.Kind == b.Kind && a.Mode == b.Mode && a.Time == b.Time && a.Data == b.Data && slices.EqualFunc(a.Kids, b.Kids, equal)
}

// P17.2: the greatest trees.
func TestGreatTrees(t *testing.T) {
	s := saver(t, newShelf(t), "t", 800000, cut.Rule{Least: 60000, Most: 65536, Bits: 12, Poly: prime})
	deep := []api.Item{file("f", []byte("x")), dir("d")}
	for range 63 {
		deep = []api.Item{dir("d", deep...)}
	}
	var many []api.Item
	for i := range 40 {
		var l []api.Item
		for j := range 49 {
			l = append(l, file(fmt.Sprint("f", j), some(int64(i*j%7), i)))
		}
		many = append(many, dir(fmt.Sprint("d", i), l...))
	}
	for what, l := range map[string][]api.Item{
		"64 deep": deep, "2000 items": many, "a file of the most bytes": {file("a", some(3, 1<<20))},
		"the edges": {{Name: strings.Repeat("n", 255), Kind: api.Link, Mode: 4095, Time: 1 << 40, Data: strings.Repeat("t", 4095)}, {Name: "\xff", Kind: api.Dir}},
	} {
		checkErrno(t, what, tree.Check(l...), api.OK)
		id := saved(t, s, l...)
		if got, e := s.Load(id); e != api.OK || !slices.EqualFunc(got, tree.Sort(l...), equal) {
			t.Errorf("%s: %d", what, e)
		}
	}
}

// P17.3: a tree that was saved already makes no new blob; its name is the same, whatever its order.
func TestSavedAlready(t *testing.T) {
	store := newShelf(t)
	s := saver(t, store, "t", 300, small())
	for i, l := range trees() {
		id := saved(t, s, l...)
		steps, ids := store.Steps(), len(s.Ids())
		slices.Reverse(l)
		for _, s := range []save.Saver{s, saver(t, store, "u", 1, small())} {
			if again := saved(t, s, l...); again != id || len(s.Ids()) != ids || store.Steps() != steps {
				t.Error("again:", again == id, len(s.Ids())-ids, store.Steps()-steps)
			}
		}
		// The same tree as a directory of another one: one blob more.
		saved(t, s, dir(fmt.Sprint("sub", i), l...))
		if len(s.Ids()) != ids+1 {
			t.Error("as a directory:", len(s.Ids())-ids)
		}
	}
	// While they wait, too.
	s = saver(t, newShelf(t), "t", 800000, small())
	for range 3 {
		for _, l := range trees() {
			_, e := s.Save(l...)
			checkErrno(t, "Save", e, api.OK)
		}
	}
	saved(t, s)
	w := words{rule: small()}
	for _, l := range trees() {
		w.dir(t, l)
	}
	if got, want := len(s.Ids()), len(w.names()); got != want {
		t.Error(got, "blobs, not", want)
	}
}

// P17.1: Save's errors, in their order.
func TestSaveErrors(t *testing.T) {
	store := newShelf(t)
	s := saver(t, store, "t", 1, small())
	bad := []api.Item{file("a", []byte("x")), file("a", nil)}
	checkNoSave(t, "no vault", save.Saver{Rule: small()}, api.ErrArg, bad...)
	for _, r := range []cut.Rule{{}, {Least: 63, Most: 100, Bits: 5, Poly: prime}, {Least: 64, Most: 63, Bits: 5, Poly: prime}, {Least: 64, Most: 65537, Bits: 5, Poly: prime}, {Least: 64, Most: 100, Bits: 21, Poly: prime}, {Least: 64, Most: 100, Bits: 5, Poly: 1<<24 - 1}} {
		checkNoSave(t, "no rule", save.Saver{Vault: s.Vault, Rule: r}, api.ErrArg, bad...)
		checkNoSave(t, "no rule", save.Saver{Vault: s.Vault, Rule: r}, api.ErrArg)
	}
	checkNoSave(t, "two of a name", s, api.ErrInvalid, bad...)
	checkNoSave(t, "below", s, api.ErrInvalid, file("a", []byte("x")), dir("d", link("l", "")))
	checkNoSave(t, "too big a file", s, api.ErrInvalid, file("a", make([]byte, 1<<20+1)))
	if l, _ := store.List(""); len(l) != 0 {
		t.Error("something was put:", l)
	}
	store.Arm(0)
	store.Nudge()
	checkNoSave(t, "off", s, api.ErrInvalid, bad...)
	checkNoSave(t, "off", s, api.ErrDown, file("a", []byte("x")))
	checkNoSave(t, "bare", save.Saver{Vault: new(vault.Vault), Rule: small()}, api.ErrArg)
}

// P17.1: a directory that has too many bytes; what was put ahead of it stays, and nothing is committed.
func TestSaveBig(t *testing.T) {
	r := cut.Rule{Least: 64, Most: 64, Bits: 20, Poly: prime}
	items := func(size int) []api.Item { // 128 names of pieces take 4096 bytes
		return []api.Item{file("a", some(1, 8192*31)), file("b", some(2, size))}
	}
	const head = 4 + (2 + 1 + 2 + 1) + 3 + 2 + (2 + 1 + 2 + 1) + 2 + 2 // all but the pieces' names, as long as b's numbers are of two bytes
	most := (1<<17 - head - 31*4096) / 32 * 64
	for size, want := range map[int]api.Errno{most: api.OK, most + 1: api.ErrBig} {
		store := newShelf(t)
		s := saver(t, store, "t", 800000, r)
		id, e := s.Save(items(size)...)
		checkErrno(t, fmt.Sprint(size), e, want)
		if (id == api.Id{}) != (want != api.OK) {
			t.Error(id)
		}
		if l, _ := store.List("x/"); len(l) != 0 {
			t.Error("committed:", l)
		}
		if _, e := s.Get(1, idOf(1, some(2, size)[:64])); e != api.OK {
			t.Error("what was put ahead:", e)
		}
	}
	// A directory below, too: those ahead of it stay.
	s := saver(t, newShelf(t), "t", 800000, r)
	checkNoSave(t, "below", s, api.ErrBig, dir("a", file("f", []byte("first"))), dir("b", items(most+1)...), file("c", []byte("last")))
	w := words{rule: r}
	if _, e := s.Dir(w.dir(t, []api.Item{file("f", []byte("first"))})); e != api.OK {
		t.Error("the first directory:", e)
	}
	if _, e := s.Get(1, idOf(1, []byte("last"))); e != api.ErrMiss {
		t.Error("the last file:", e)
	}
}

// P17.1: no room, no power: told as it comes.
func TestSaveWithoutRoom(t *testing.T) {
	l := []api.Item{file("a", some(1, 2000)), dir("d", file("b", some(2, 2000)))}
	store := newShelf(t)
	s := saver(t, store, "t", 500, small())
	want := saved(t, s, l...)
	for n := range store.Steps() {
		store := newShelf(t)
		s := saver(t, store, "t", 500, small())
		store.Arm(n)
		id, e := s.Save(l...)
		if e == api.OK {
			e = s.Commit()
		} else if id != (api.Id{}) {
			t.Error(n, id)
		}
		checkErrno(t, fmt.Sprint(n), e, api.ErrDown)
		store.Crash(n)
		s = saver(t, store, "u", 500, small())
		if id := saved(t, s, l...); id != want {
			t.Error(n, id)
		}
		if got, e := s.Load(want); e != api.OK || !tree.Same(got, l) {
			t.Error(n, e)
		}
	}
	store = newShelf(t)
	s = saver(t, store, "t", 500, small())
	store.Forge("fill", make([]byte, 1<<20))
	for i := range 255 {
		store.Forge(fmt.Sprint("fill", i), make([]byte, 1<<20))
	}
	checkNoSave(t, "no room", s, api.ErrFull, l...)
}

// P17.1: the nodes of a directory.
func TestDir(t *testing.T) {
	store := newShelf(t)
	s := saver(t, store, "t", 300, small())
	data := some(1, 900)
	id := saved(t, s, link("l", "aim"), file("f", data), dir("d", file("e", nil)), file("0", nil))
	l, e := s.Dir(id)
	if e != api.OK || len(l) != 4 {
		t.Fatal(l, e)
	}
	sizes, _ := cut.Sizes(small(), data)
	w := words{rule: small()}
	for i, want := range []node.Node{
		{Name: "0", Mode: 0o644, Time: 7}, {Name: "d", Kind: 1, Mode: 0o755, Time: 8, Tree: w.dir(t, []api.Item{file("e", nil)})},
		{Name: "f", Mode: 0o644, Time: 7, Size: 900}, {Name: "l", Kind: 2, Mode: 0o777, Time: 9, Target: "aim"},
	} {
		got := l[i]
		if want.Size > 0 && (len(got.Parts) != len(sizes) || got.Parts[0] != idOf(1, data[:sizes[0]])) || want.Size == 0 && len(got.Parts) > 0 {
			t.Error("Parts of", got.Name)
		}
		got.Parts = nil
		if got.Name != want.Name || got.Kind != want.Kind || got.Mode != want.Mode || got.Time != want.Time || got.Size != want.Size || got.Target != want.Target || got.Tree != want.Tree {
			t.Error(got, want)
		}
	}
	notNodes := put(t, s, 2, []byte("no directory"))
	for what, id := range map[string]api.Id{"none": {}, "a piece": l[2].Parts[0], "no directory": notNodes, "empty": put(t, s, 2, nil), "another place": put(t, s, 1, []byte{0x48, 0x59, 0x6e, 0})} {
		if l, e := s.Dir(id); l != nil || e != api.ErrCorrupt {
			t.Error(what, l, e)
		}
		checkNoLoad(t, what, s, api.ErrCorrupt, id)
	}
	checkErrno(t, "Commit", s.Commit(), api.OK)
	store.Arm(0)
	store.Nudge()
	if l, e := s.Dir(id); l != nil || e != api.ErrDown {
		t.Error(l, e)
	}
	checkNoLoad(t, "off", s, api.ErrDown, id)
}

// P17.1: without a vault.
func TestNoVault(t *testing.T) {
	var s save.Saver
	checkNoSave(t, "none", s, api.ErrArg)
	checkNoLoad(t, "none", s, api.ErrArg, api.Id{})
	if l, e := s.Dir(api.Id{}); l != nil || e != api.ErrArg {
		t.Error(l, e)
	}
	for _, n := range []node.Node{{}, {Name: "a"}} {
		if b, e := s.Bytes(n, 0, 1); b != nil || e != api.ErrArg {
			t.Error(b, e)
		}
	}
	s.Vault = new(vault.Vault)
	checkNoLoad(t, "bare", s, api.ErrCorrupt, api.Id{})
}

// P17.1: a saver has its vault's calls.
func TestPromoted(t *testing.T) {
	s := saver(t, newShelf(t), "t", 300, small())
	id, fresh, e := s.Put(1, []byte("a"))
	if b, f := s.Get(1, id); id != s.Id(1, []byte("a")) || !fresh || e != api.OK || f != api.OK || !bytes.Equal(b, []byte("a")) {
		t.Error(id, fresh, e, f)
	}
	checkErrno(t, "Commit", s.Commit(), api.OK)
	if len(s.Files()) != 1 || len(s.Packs()) != 1 {
		t.Error(s.Files())
	}
}

// Rule 4: what is handed in isn't changed, its spare room neither.
func TestSaveChangesNothing(t *testing.T) {
	s := saver(t, newShelf(t), "t", 300, small())
	room := []api.Item{dir("z", file("b", nil), file("a", nil)), file("y", nil), file("spare", nil)}
	saved(t, s, room[:2]...)
	if room[0].Name != "z" || room[0].Kids[0].Name != "b" || room[1].Name != "y" || room[2].Name != "spare" {
		t.Error(room)
	}
}
