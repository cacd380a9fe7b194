package index_test

import (
	"bytes"
	"crypto/sha256"
	"encoding/binary"
	"encoding/hex"
	"math"
	"math/rand"
	"reflect"
	"slices"
	"strconv"
	"strings"
	"testing"

	"hypogeum/api"
	"hypogeum/cell"
	"hypogeum/index"
	"hypogeum/key"
	"hypogeum/pack"
	"hypogeum/wax"
)

// fileKind is that of the document: 78 (base 16).
const fileKind = 0x78

// some: bytes that look like chance, the same ones each time.
func some(seed int64, n int) []byte {
	b := make([]byte, n)
	rand.New(rand.NewSource(seed)).Read(b)
	return b
}

// ring: keys, unlike for each seed.
func ring(seed int64) key.Ring {
	return key.Ring{Keys: wax.Keys{Hide: [32]byte(some(3*seed, 32)), Mark: [32]byte(some(3*seed+1, 32))}, Name: [32]byte(some(3*seed+2, 32))}
}

func pen(r key.Ring, begin string) key.Pen {
	return key.Pen{Ring: r, Tape: cell.Wind([]byte(begin))}
}

// entries: n blobs that are in form, of these numbers on.
func entries(from, n int) []pack.Entry {
	var l []pack.Entry
	for i := range n {
		l = append(l, pack.Entry{Id: api.Id{byte(from + i), byte((from + i) >> 8)}, Kind: 1 + i%2, Off: 50 * i, Len: 48 + i%3})
	}
	return l
}

// numbered: a name that rises with its number.
func numbered(prefix string, i int) string {
	return prefix + strconv.Itoa(10000+i)
}

// packs: n packs that are in form, each of so many blobs.
func packs(n, blobs int) []index.Pack {
	var l []index.Pack
	for i := range n {
		l = append(l, index.Pack{Name: numbered("p/", i), Entries: entries(i*blobs, blobs)})
	}
	return l
}

// names: n names of objects, rising.
func names(prefix string, n int) []string {
	var l []string
	for i := range n {
		l = append(l, numbered(prefix, i))
	}
	return l
}

// told: a file as bytes that aren't sealed yet, by the document's words, in form or not.
func told(f index.File) []byte {
	text := func(b []byte, s string) []byte {
		return append(binary.AppendUvarint(b, uint64(len(s))), s...)
	}
	b := binary.AppendUvarint([]byte{'H', 'Y', fileKind}, uint64(len(f.Packs)))
	for _, p := range f.Packs {
		b = binary.AppendUvarint(text(b, p.Name), uint64(len(p.Entries)))
		for _, x := range p.Entries {
			b = append(b, x.Id[:]...)
			for _, n := range []int{x.Kind, x.Off, x.Len} {
				b = binary.AppendUvarint(b, uint64(n))
			}
		}
	}
	b = binary.AppendUvarint(b, uint64(len(f.Old)))
	for _, s := range f.Old {
		b = text(b, s)
	}
	return b
}

// seal: by a ring, whatever it is.
func seal(t *testing.T, r key.Ring, kind byte, name string, nonce [16]byte, b []byte) []byte {
	t.Helper()
	s, e := r.Seal(kind, name, nonce, b)
	if e != api.OK {
		t.Fatal("Seal", e)
	}
	return s
}

// alike: are they the same, where nil and empty lists are one?
func alike(a, b index.File) bool {
	return slices.Equal(a.Old, b.Old) && alikePacks(a.Packs, b.Packs)
}

func alikePacks(a, b []index.Pack) bool {
	return slices.EqualFunc(a, b, func(a, b index.Pack) bool { return a.Name == b.Name && slices.Equal(a.Entries, b.Entries) })
}

func checkRead(t *testing.T, r key.Ring, b []byte, want index.File) {
	t.Helper()
	if f, e := index.Read(r, b); e != api.OK || !alike(f, want) {
		t.Errorf("Read of %d bytes: %d packs, %d old, %d", len(b), len(f.Packs), len(f.Old), e)
	}
}

// checkNoFile: Read tells that these bytes are none, and nothing beside it.
func checkNoFile(t *testing.T, what string, r key.Ring, b []byte) {
	t.Helper()
	if f, e := index.Read(r, b); !reflect.ValueOf(f).IsZero() || e != api.ErrCorrupt {
		t.Errorf("%s: Read of %d bytes: %v, %d", what, len(b), f, e)
	}
}

// checkWrite: the file's bytes are those of the document's words, by the next nonce; and it comes back from them.
func checkWrite(t *testing.T, p key.Pen, nonces *cell.Tape, f index.File) {
	t.Helper()
	want := seal(t, p.Ring, fileKind, "index", nonces.Nonce(), told(f))
	s := sha256.Sum256(want)
	name, b, e := index.Write(p, f)
	if e != api.OK || name != "x/"+hex.EncodeToString(s[:20]) || !bytes.Equal(b, want) {
		t.Errorf("Write of %d packs: %s, %d bytes, %d", len(f.Packs), name, len(b), e)
	}
	checkRead(t, p.Ring, b, f)
}

// checkUnwritten: Write answers this error, and nothing beside it.
func checkUnwritten(t *testing.T, what string, p key.Pen, f index.File, want api.Errno) {
	t.Helper()
	if name, b, e := index.Write(p, f); name != "" || b != nil || e != want {
		t.Errorf("%s: Write: %q, %d bytes, %d, not %d", what, name, len(b), e, want)
	}
}

// P13.1, P13.2: files' bytes and names by the document's words, off one tape; each comes back.
func TestWrite(t *testing.T) {
	p, nonces := pen(ring(1), "t"), cell.Wind([]byte("t"))
	for _, f := range []index.File{
		{},
		{Packs: []index.Pack{}, Old: []string{}},
		{Packs: packs(1, 1)},
		{Old: []string{"x/old"}},
		{Packs: packs(3, 1), Old: []string{"-", "a", "p/", "x/a"}},
		{Packs: packs(1, 1000)},
		{Packs: packs(20, 1000), Old: names("x/", 1000)},
		{Packs: packs(1000, 20), Old: names("", 7)},
	} {
		checkWrite(t, p, nonces, f)
	}
	checkWrite(t, key.Pen{}, nil, index.File{Packs: packs(2, 2)})
}

// edges are files at the edges of what is in form.
func edges() []index.File {
	one := func(l ...pack.Entry) index.File { return index.File{Packs: []index.Pack{{Name: "p/a", Entries: l}}} }
	named := func(l ...string) index.File {
		var f index.File
		for _, name := range l {
			f.Packs = append(f.Packs, index.Pack{Name: name, Entries: entries(0, 1)})
		}
		return f
	}
	return []index.File{
		one(pack.Entry{Kind: 1, Len: 48}), one(pack.Entry{Kind: 2, Len: 48}),
		one(pack.Entry{Kind: 1, Off: 7, Len: 48}), one(pack.Entry{Kind: 1, Len: 1 << 20}),
		one(pack.Entry{Kind: 1, Off: 1<<20 - 48, Len: 48}), one(pack.Entry{Kind: 1, Off: 1 << 19, Len: 1 << 19}),
		one(pack.Entry{Kind: 1, Len: 48}, pack.Entry{Id: api.Id{31: 1}, Kind: 2, Off: 48, Len: 48}),
		one(pack.Entry{Id: api.Id{9}, Kind: 1, Len: 48}, pack.Entry{Kind: 1, Off: 99, Len: 48}),
		one(pack.Entry{Kind: 1, Len: 1 << 19}, pack.Entry{Id: api.Id{1}, Kind: 1, Off: 1 << 19, Len: 1 << 19}),
		one(entries(0, 1000)...),
		named("p/"), named("p//", "p/0", "p/a", "p/a-", "p/aa"), named("p/" + strings.Repeat("z", 62)),
		named("p/a", "p/b"), // one blob in two packs
		{Packs: packs(1000, 1)}, {Old: names("x/", 1000)},
		{Old: []string{"-", "/", "0", "a", "p/a", "x", "x/", strings.Repeat("z", 64)}},
	}
}

// misshapen are files that aren't in form, each for one reason.
func misshapen() map[string]index.File {
	one := func(l ...pack.Entry) index.File { return index.File{Packs: []index.Pack{{Name: "p/a", Entries: l}}} }
	named := func(l ...string) index.File {
		var f index.File
		for _, name := range l {
			f.Packs = append(f.Packs, index.Pack{Name: name, Entries: entries(0, 1)})
		}
		return f
	}
	m := map[string]index.File{
		"no entries": one(), "1001 entries": one(entries(0, 1001)...), "1001 packs": {Packs: packs(1001, 1)}, "1001 old": {Old: names("x/", 1001)},
		"names don't rise": named("p/b", "p/a"), "a name twice": named("p/a", "p/a"), "the last falls": named("p/a", "p/c", "p/b"),
		"longer ahead": named("p/aa", "p/a"), "old don't rise": {Old: []string{"b", "a"}}, "an old twice": {Old: []string{"a", "a"}}, "the last old falls": {Old: []string{"a", "c", "b"}},
		"the second pack": {Packs: []index.Pack{{Name: "p/a", Entries: entries(0, 1)}, {Name: "p/b"}}},
		"one name":        one(pack.Entry{Kind: 1, Len: 48}, pack.Entry{Kind: 1, Off: 48, Len: 48}),
		"one name, kinds": one(pack.Entry{Kind: 1, Len: 48}, pack.Entry{Kind: 2, Off: 48, Len: 48}),
		"one name, apart": one(pack.Entry{Kind: 1, Len: 48}, pack.Entry{Id: api.Id{1}, Kind: 1, Off: 48, Len: 48}, pack.Entry{Kind: 1, Off: 96, Len: 48}),
		"over another":    one(pack.Entry{Kind: 1, Len: 48}, pack.Entry{Id: api.Id{1}, Kind: 1, Off: 47, Len: 48}),
		"at one place":    one(pack.Entry{Kind: 1, Len: 48}, pack.Entry{Id: api.Id{1}, Kind: 1, Len: 48}),
		"off ahead":       one(pack.Entry{Kind: 1, Off: 50, Len: 48}, pack.Entry{Id: api.Id{1}, Kind: 1, Len: 48}),
		"over the first":  one(pack.Entry{Kind: 1, Off: 9, Len: 48}, pack.Entry{Id: api.Id{1}, Kind: 1, Off: 56, Len: 48}),
		"beyond, second":  one(pack.Entry{Kind: 1, Len: 1 << 19}, pack.Entry{Id: api.Id{1}, Kind: 1, Off: 1 << 19, Len: 1<<19 + 1}),
	}
	for _, name := range []string{"", "p", "a", "p-a", "x/a", "P/a", "/p/a", "p/A", "p/ ", "p/\x00", "p/é", "p/_", "p/" + strings.Repeat("z", 63), "p/" + strings.Repeat("z", 1<<18)} {
		m["name "+name] = named(name)
	}
	for _, name := range []string{"", "A", "x/ ", "x_", "é", strings.Repeat("z", 65)} {
		m["old "+name] = index.File{Old: []string{name}}
		m["old, second "+name] = index.File{Old: []string{"-", name}}
	}
	for _, kind := range []int{0, 3, -1, 257, 258, 1<<32 + 1, math.MinInt, math.MaxInt} {
		m["kind "+strconv.Itoa(kind)] = one(pack.Entry{Kind: kind, Len: 48})
	}
	for _, x := range [][2]int{
		{-1, 48}, {0, 47}, {0, 0}, {0, -1}, {math.MinInt, 48}, {0, math.MinInt}, {0, 1<<20 + 1}, {1, 1 << 20}, {1<<20 - 47, 48}, {1 << 20, 48},
		{math.MaxInt, 48}, {48, math.MaxInt}, {math.MaxInt, math.MaxInt}, {math.MinInt, math.MaxInt}, {math.MaxInt - 47, 48}, {-48, 48},
	} {
		m["off, len "+strconv.Itoa(x[0])+" "+strconv.Itoa(x[1])] = one(pack.Entry{Kind: 1, Off: x[0], Len: x[1]})
	}
	return m
}

// P13.1: what is in form is written and comes back, up to its edges.
func TestInForm(t *testing.T) {
	p, nonces := pen(ring(1), "t"), cell.Wind([]byte("t"))
	for _, f := range edges() {
		checkWrite(t, p, nonces, f)
	}
}

// P13.1: what isn't in form isn't written, and isn't read, though it is sealed by the keys; no nonce is used up.
func TestNotInForm(t *testing.T) {
	p, nonces := pen(ring(1), "t"), cell.Wind([]byte("t"))
	for what, f := range misshapen() {
		checkUnwritten(t, what, p, f, api.ErrForm)
		checkNoFile(t, what, p.Ring, seal(t, p.Ring, fileKind, "index", [16]byte{}, told(f)))
	}
	checkWrite(t, p, nonces, index.File{Packs: packs(1, 1)})
}

// sized: a file that is in form, and has so many bytes when told.
func sized(t *testing.T, n int) index.File {
	t.Helper()
	const small = 44 // bytes of a pack of one blob
	f := index.File{Packs: packs(28, 1000)}
	for range (n - 80 - len(told(f))) / small {
		i := len(f.Packs)
		f.Packs = append(f.Packs, index.Pack{Name: numbered("p/", i), Entries: entries(i*1000, 1)})
	}
	left := n - len(told(f))
	f.Old = []string{strings.Repeat("a", 64), strings.Repeat("b", left-66)}
	if len(told(f)) != n {
		t.Fatal("no such file", len(told(f)))
	}
	return f
}

// P13.1: 2^20 bytes of g, and not one more: ErrBig; then no nonce is used up. What isn't in form is told first.
func TestWriteBig(t *testing.T) {
	p, nonces := pen(ring(1), "t"), cell.Wind([]byte("t"))
	checkWrite(t, p, nonces, sized(t, 1<<20-1))
	checkWrite(t, p, nonces, sized(t, 1<<20))
	checkUnwritten(t, "a byte more", p, sized(t, 1<<20+1), api.ErrBig)
	checkUnwritten(t, "all that is in form", p, index.File{Packs: packs(1000, 1000), Old: names("x/", 1000)}, api.ErrBig)
	f := sized(t, 1<<20+1)
	f.Old = append(f.Old, "A")
	checkUnwritten(t, "both", p, f, api.ErrForm)
	checkWrite(t, p, nonces, index.File{Packs: packs(1, 1)})
}

// P13.1, P2: a file is sealed by these keys, as what it is; no bit of it can be changed.
func TestReadSeal(t *testing.T) {
	r, f := ring(1), index.File{Packs: packs(2, 2), Old: []string{"x/a"}}
	g := told(f)
	checkRead(t, r, seal(t, r, fileKind, "index", [16]byte{5}, g), f)
	checkNoFile(t, "another kind", r, seal(t, r, 0x79, "index", [16]byte{}, g))
	checkNoFile(t, "another name", r, seal(t, r, fileKind, "indez", [16]byte{}, g))
	checkNoFile(t, "other keys", ring(2), seal(t, r, fileKind, "index", [16]byte{}, g))
	checkNoFile(t, "no seal", r, g)
	b := seal(t, r, fileKind, "index", [16]byte{}, g)
	for i := range b {
		b[i] ^= 1 << (i % 8)
		checkNoFile(t, "changed", r, b)
		b[i] ^= 1 << (i % 8)
		checkNoFile(t, "cut", r, b[:i])
	}
	checkNoFile(t, "a byte more", r, append(b, 0))
	for n := range 100 {
		checkNoFile(t, "chance", r, some(int64(n), n))
	}
}

// P13.1: what is sealed is the glyph of a file, wholly, in the one way to write it.
func TestReadGlyph(t *testing.T) {
	r, f := ring(1), index.File{Packs: packs(2, 2), Old: []string{"x/a"}}
	g := told(f)
	none := func(what string, g []byte) {
		t.Helper()
		checkNoFile(t, what, r, seal(t, r, fileKind, "index", [16]byte{}, g))
	}
	for n := range g {
		none("cut", g[:n])
	}
	none("bytes left", append(slices.Clone(g), 0))
	for i := range 3 {
		b := slices.Clone(g)
		b[i] ^= 1
		none("another beginning", b)
	}
	none("a number in another way", slices.Concat(g[:3], []byte{0x82, 0}, g[4:]))
	head := []byte{'H', 'Y', fileKind}
	for _, n := range []uint64{1001, 1 << 40, 1 << 61} {
		none("a great many packs", binary.AppendUvarint(slices.Clone(head), n))
		none("a great many old", binary.AppendUvarint(append(slices.Clone(head), 0), n))
		none("a great many entries", binary.AppendUvarint(append(slices.Clone(head), 1, 3, 'p', '/', 'a'), n))
	}
}

// P13.2: files of all kinds come back from their bytes, to whoever has the keys, and to nobody else.
func TestComesBack(t *testing.T) {
	chance := rand.New(rand.NewSource(3))
	for round := range 100 {
		r := ring(int64(round))
		var f index.File
		for i := range chance.Intn(20) {
			f.Packs = append(f.Packs, index.Pack{Name: numbered("p/", i), Entries: entries(chance.Intn(300), 1+chance.Intn(30))})
		}
		for i := range chance.Intn(5) {
			f.Old = append(f.Old, numbered("x/", i))
		}
		_, b, e := index.Write(pen(r, "t"), f)
		if e != api.OK {
			t.Fatal(round, e)
		}
		checkRead(t, r, b, f)
		checkNoFile(t, "other keys", ring(int64(round)+1), b)
	}
}

// P13.4: Write and Read change and keep nothing, and answer new memory.
func TestFilesKeepNothing(t *testing.T) {
	p, nonces := pen(ring(1), "t"), cell.Wind([]byte("t"))
	f, same := index.File{Packs: packs(3, 3), Old: names("x/", 3)}, index.File{Packs: packs(3, 3), Old: names("x/", 3)}
	checkWrite(t, p, nonces, f)
	if !alike(f, same) {
		t.Error("the file is changed")
	}
	_, b, _ := index.Write(p, f)
	kept := slices.Clone(b)
	first, _ := index.Read(p.Ring, b)
	again, _ := index.Read(p.Ring, b)
	spoil(again)
	spoil(f)
	if !bytes.Equal(b, kept) {
		t.Error("the bytes are changed")
	}
	clear(b)
	if !alike(first, same) {
		t.Error("answers share memory")
	}
	checkApart(t, first.Packs)
}

// spoil: all that a file has, in its spare room, too.
func spoil(f index.File) {
	for _, p := range f.Packs {
		clear(p.Entries[:cap(p.Entries)])
	}
	clear(f.Packs[:cap(f.Packs)])
	clear(f.Old[:cap(f.Old)])
}

// checkApart: no pack's entries share memory with another's, in their spare room neither.
func checkApart(t *testing.T, l []index.Pack) {
	t.Helper()
	for i := range l {
		kept := make([][]pack.Entry, len(l))
		for j := range l {
			kept[j] = slices.Clone(l[j].Entries)
		}
		clear(l[i].Entries[:cap(l[i].Entries)])
		for j := range l {
			if j != i && !slices.Equal(l[j].Entries, kept[j]) {
				t.Error("packs share memory", i, j)
			}
		}
	}
}
