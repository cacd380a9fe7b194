package vault_test

import (
	"crypto/hmac"
	"crypto/sha256"
	"encoding/hex"
	"maps"
	"math/rand"
	"slices"
	"testing"

	"hypogeum/api"
	"hypogeum/cell"
	"hypogeum/index"
	"hypogeum/key"
	"hypogeum/pack"
	"hypogeum/shelf"
	"hypogeum/vault"
	"hypogeum/wax"
)

const room = 1 << 28

// some: bytes that look like chance, the same ones each time.
func some(seed int64, n int) []byte {
	b := make([]byte, n)
	rand.New(rand.NewSource(seed)).Read(b)
	return b
}

// ring: keys, unlike for each seed.
func ring(seed int64) key.Ring {
	return key.Ring{Keys: wax.Keys{Hide: [32]byte(some(3*seed, 32)), Mark: [32]byte(some(3*seed+1, 32))}, Name: [32]byte(some(3*seed+2, 32))}
}

// pen: that of ring 1, with a tape of this beginning.
func pen(begin string) key.Pen {
	return key.Pen{Ring: ring(1), Tape: cell.Wind([]byte(begin))}
}

// lump: a blob of a kind.
func lump(kind int, b string) vault.Lump {
	return vault.Lump{Kind: kind, Bytes: []byte(b)}
}

// idOf: a blob's name, by the document's words.
func idOf(x vault.Lump) api.Id {
	r := ring(1)
	h := hmac.New(sha256.New, r.Name[:])
	h.Write([]byte{byte(x.Kind)})
	h.Write(x.Bytes)
	return api.Id(h.Sum(nil))
}

// digits: the first 40 of what bytes sum up to.
func digits(b []byte) string {
	s := sha256.Sum256(b)
	return hex.EncodeToString(s[:20])
}

// draftOf: the name of an object's draft.
func draftOf(name string) string { return "t/" + digits([]byte(name)) }

func newShelf(t *testing.T, room int) *shelf.Shelf {
	t.Helper()
	s, e := shelf.New(room)
	if e != api.OK {
		t.Fatal("shelf.New", e)
	}
	return s
}

// open: a vault of that store, with a tape of this beginning.
func open(t *testing.T, s *shelf.Shelf, begin string, target int) *vault.Vault {
	t.Helper()
	v, e := vault.Open(s, pen(begin), target)
	if v == nil || e != api.OK {
		t.Fatal("Open", e)
	}
	return v
}

// objects: all that the store has.
func objects(t *testing.T, s *shelf.Shelf) map[string]string {
	t.Helper()
	l, e := s.List("")
	if e != api.OK {
		t.Fatal("List", e)
	}
	m := map[string]string{}
	for _, name := range l {
		b, e := s.Get(name)
		if e != api.OK {
			t.Fatal("Get", name, e)
		}
		m[name] = string(b)
	}
	return m
}

// names: those of all objects that begin so.
func names(t *testing.T, s *shelf.Shelf, prefix string) []string {
	t.Helper()
	l, e := s.List(prefix)
	if e != api.OK {
		t.Fatal("List", e)
	}
	return l
}

func checkErrno(t *testing.T, what string, e, want api.Errno) {
	t.Helper()
	if e != want {
		t.Errorf("%s: %d, not %d", what, e, want)
	}
}

// checkObjects: the store has just these.
func checkObjects(t *testing.T, what string, s *shelf.Shelf, want map[string]string) {
	t.Helper()
	if got := objects(t, s); !maps.Equal(got, want) {
		t.Errorf("%s: there are %v, not %v", what, slices.Sorted(maps.Keys(got)), slices.Sorted(maps.Keys(want)))
	}
}

func checkFiles(t *testing.T, what string, v *vault.Vault, want ...string) {
	t.Helper()
	if got := v.Files(); !slices.Equal(got, want) {
		t.Errorf("%s: files %v, not %v", what, got, want)
	}
}

// put: a blob, of which it is known whether it is new.
func put(t *testing.T, v *vault.Vault, x vault.Lump, fresh bool) api.Id {
	t.Helper()
	id, ok, e := v.Put(x.Kind, x.Bytes)
	if id != idOf(x) || ok != fresh || e != api.OK {
		t.Errorf("Put of %d bytes: %x, %v, %d", len(x.Bytes), id, ok, e)
	}
	return id
}

// checkPut: Put answers this error, and nothing beside it.
func checkPut(t *testing.T, v *vault.Vault, want api.Errno, kind int, parts ...[]byte) {
	t.Helper()
	if id, ok, e := v.Put(kind, parts...); id != (api.Id{}) || ok || e != want {
		t.Errorf("Put(%d, ..): %x, %v, %d, not %d", kind, id, ok, e, want)
	}
}

// checkTold: Get answers the blob.
func checkTold(t *testing.T, what string, v *vault.Vault, l ...vault.Lump) {
	t.Helper()
	for _, x := range l {
		if b, e := v.Get(x.Kind, idOf(x)); e != api.OK || !slices.Equal(b, x.Bytes) {
			t.Errorf("%s: Get of %d bytes: %d bytes, %d", what, len(x.Bytes), len(b), e)
		}
	}
}

// checkUntold: Get answers this error, and nothing beside it.
func checkUntold(t *testing.T, what string, v *vault.Vault, want api.Errno, l ...vault.Lump) {
	t.Helper()
	for _, x := range l {
		if b, e := v.Get(x.Kind, idOf(x)); b != nil || e != want {
			t.Errorf("%s: Get of %d bytes: %d bytes, %d, not %d", what, len(x.Bytes), len(b), e, want)
		}
	}
}

// commit: these blobs, of which all are new.
func commit(t *testing.T, v *vault.Vault, l ...vault.Lump) {
	t.Helper()
	for _, x := range l {
		put(t, v, x, true)
	}
	checkErrno(t, "Commit", v.Commit(), api.OK)
}

// lumps: n blobs, all unlike, of these numbers on.
func lumps(from, n int) []vault.Lump {
	var l []vault.Lump
	for i := from; i < from+n; i++ {
		l = append(l, vault.Lump{Kind: 1 + i%2, Bytes: append([]byte{byte(i), byte(i >> 8)}, some(int64(i), i*7%90)...)})
	}
	return l
}

// packOf: the pack that a pen makes of blobs; its bytes.
func packOf(t *testing.T, p key.Pen, l ...vault.Lump) (index.Pack, string) {
	t.Helper()
	w := pack.New(p)
	for _, x := range l {
		if _, ok, e := w.Add(x.Kind, x.Bytes); !ok || e != api.OK {
			t.Fatal("Add", ok, e)
		}
	}
	name, b, entries, e := w.Close()
	if e != api.OK {
		t.Fatal("Close", e)
	}
	return index.Pack{Name: name, Entries: entries}, string(b)
}

// fileOf: the index that a pen makes; its bytes.
func fileOf(t *testing.T, p key.Pen, f index.File) (string, string) {
	t.Helper()
	name, b, e := index.Write(p, f)
	if e != api.OK {
		t.Fatal("Write", e)
	}
	return name, string(b)
}

// readFile: the index of that name, as the store has it.
func readFile(t *testing.T, s *shelf.Shelf, name string) index.File {
	t.Helper()
	b, _ := s.Get(name)
	f, e := index.Read(ring(1), b)
	if e != api.OK || name != "x/"+digits(b) {
		t.Fatal("Read", name, e)
	}
	return f
}

// alikePacks: are these the same packs in the same order?
func alikePacks(a, b []index.Pack) bool {
	return slices.EqualFunc(a, b, func(a, b index.Pack) bool { return a.Name == b.Name && slices.Equal(a.Entries, b.Entries) })
}

// byName: packs, rising.
func byName(l ...index.Pack) []index.Pack {
	return slices.SortedFunc(slices.Values(l), func(a, b index.Pack) int {
		if a.Name < b.Name {
			return -1
		}
		return 1
	})
}

func fileWith(l ...index.Pack) index.File { return index.File{Packs: l} }

// penOf: that of another ring.
func penOf(seed int64) key.Pen {
	return key.Pen{Ring: ring(seed), Tape: cell.Wind([]byte("t"))}
}
