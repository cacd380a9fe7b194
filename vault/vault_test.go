package vault_test

import (
	"math"
	"slices"
	"testing"

	"hypogeum/api"
	"hypogeum/index"
	"hypogeum/key"
	"hypogeum/pack"
	"hypogeum/vault"
)

// P16.1: the document's example.
func TestExample(t *testing.T) {
	s := newShelf(t, room)
	v := open(t, s, "t", 1000)
	a := lump(1, "a")
	put(t, v, a, true)
	put(t, v, a, false)
	checkErrno(t, "Commit", v.Commit(), api.OK)
	v = open(t, s, "u", 1000)
	checkTold(t, "another vault", v, a)
	for _, name := range names(t, s, "p/") {
		s.Steal(name)
	}
	checkUntold(t, "stolen", v, api.ErrCorrupt, a)
	checkUntold(t, "stolen", open(t, s, "u", 1000), api.ErrCorrupt, a)
}

// P16.1: what Open refuses.
func TestOpenEdges(t *testing.T) {
	s := newShelf(t, room)
	for _, n := range []int{0, -1, 800001, math.MinInt, math.MaxInt} {
		if v, e := vault.Open(s, pen("t"), n); v != nil || e != api.ErrArg {
			t.Error(n, v, e)
		}
	}
	if v, e := vault.Open(nil, pen("t"), 1); v != nil || e != api.ErrArg {
		t.Error(v, e)
	}
	open(t, s, "t", 1)
	open(t, s, "t", 800000)
	s.Arm(0)
	s.Nudge()
	if v, e := vault.Open(s, pen("t"), 1); v != nil || e != api.ErrDown {
		t.Error(v, e)
	}
	if v, e := vault.Open(s, pen("t"), 0); v != nil || e != api.ErrArg {
		t.Error(v, e)
	}
}

// P16.1: Open reads all that begins with x/; what counts are the live ones.
func TestOpen(t *testing.T) {
	s := newShelf(t, room)
	q := pen("t")
	a, ab := packOf(t, q, lumps(0, 3)...)
	b, bb := packOf(t, q, lumps(2, 3)...)
	c, cb := packOf(t, q, lumps(9, 1)...)
	for name, bytes := range map[string]string{a.Name: ab, b.Name: bb, c.Name: cb} {
		forge(t, s, name, bytes)
	}
	first, fb := fileOf(t, q, fileWith(a))
	second, sb := fileOf(t, q, index.File{Packs: byName(b, c), Old: []string{first}})
	third, tb := fileOf(t, q, index.File{Packs: fileWith(a).Packs, Old: []string{second}})
	forge(t, s, "x", "no index")
	forge(t, s, "xx/a", "no index")
	check := func(what string, files []string, packs ...index.Pack) {
		t.Helper()
		v := open(t, s, "u", 1)
		checkFiles(t, what, v, files...)
		if !alikePacks(v.Packs(), byName(packs...)) {
			t.Errorf("%s: packs %v", what, v.Packs())
		}
	}
	check("none", nil)
	forge(t, s, first, fb)
	check("one", []string{first}, a)
	forge(t, s, second, sb)
	check("two", []string{second}, b, c)
	forge(t, s, third, tb)
	check("three", []string{third}, a)
	s.Steal(first)
	check("the first gone", []string{third}, a)
	s.Steal(third)
	check("the third gone", []string{second}, b, c)
	forge(t, s, first, fb)
	none, nb := fileOf(t, q, index.File{})
	forge(t, s, none, nb)
	check("one of none", slices.Sorted(slices.Values([]string{second, none})), b, c)
	v := open(t, s, "u", 1)
	checkTold(t, "told", v, lumps(2, 3)...)
	checkTold(t, "told", v, lumps(9, 1)...)
	checkUntold(t, "not live", v, api.ErrMiss, lumps(0, 1)...)
}

// P16.1, P16.4: an object that is no index, or has another name than its bytes say, whether it would count or not.
func TestOpenCorrupt(t *testing.T) {
	good, gb := fileOf(t, pen("t"), index.File{})
	other, ob := fileOf(t, pen("u"), index.File{Old: []string{good}})
	foreign, e := ring(2).Seal(0x78, "index", [16]byte{}, []byte{'H', 'Y', 0x78, 0, 0})
	checkErrno(t, "Seal", e, api.OK)
	kind, e := ring(1).Seal(0x77, "index", [16]byte{}, []byte{'H', 'Y', 0x78, 0, 0})
	checkErrno(t, "Seal", e, api.OK)
	_, p := packOf(t, pen("t"), lump(1, "a"))
	for _, x := range []struct{ name, b string }{
		{good, ""}, {good, "no index"}, {good, gb[:len(gb)-1]}, {good, gb + "x"}, {good, ob}, {"x/" + digits([]byte("no index")), "no index"},
		{"x/", gb}, {good + "0", gb}, {good[:41], gb}, {"x/a", gb}, {other, gb}, {"x/" + digits(foreign), string(foreign)}, {"x/" + digits(kind), string(kind)}, {"x/" + digits([]byte(p)), p},
	} {
		for _, others := range []bool{false, true} {
			s := newShelf(t, room)
			if others {
				forge(t, s, good, gb)
				forge(t, s, other, ob)
			}
			forge(t, s, x.name, x.b)
			if v, e := vault.Open(s, pen("u"), 1); v != nil || e != api.ErrCorrupt {
				t.Errorf("%s, %d bytes: %v, %d", x.name, len(x.b), v, e)
			}
		}
	}
	for i := range gb {
		s := newShelf(t, room)
		b := []byte(gb)
		b[i] ^= 1 << (i % 8)
		forge(t, s, good, string(b))
		if v, e := vault.Open(s, pen("u"), 1); v != nil || e != api.ErrCorrupt {
			t.Error(i, v, e)
		}
	}
}

// P16.1: what Put refuses, also where something of that name would be there; nothing waits then.
func TestPutEdges(t *testing.T) {
	s := newShelf(t, room)
	v := open(t, s, "t", 1000)
	put(t, v, lump(1, "a"), true)
	put(t, v, lump(2, "a"), true)
	for _, kind := range []int{0, 3, -1, 257, 258, math.MaxInt, math.MinInt + 1} {
		checkPut(t, v, api.ErrArg, kind, []byte("a"))
		checkPut(t, v, api.ErrArg, kind, make([]byte, 1<<17+1))
	}
	checkErrno(t, "Commit", v.Commit(), api.OK)
	checkPut(t, v, api.ErrArg, 257, []byte("a"))
	for _, kind := range []int{1, 2} {
		checkPut(t, v, api.ErrBig, kind, make([]byte, 1<<17+1))
		checkPut(t, v, api.ErrBig, kind, make([]byte, 1<<17), []byte{}, []byte{1})
		checkPut(t, v, api.ErrBig, kind, []byte{1}, make([]byte, 1<<17))
	}
	was := objects(t, s)
	checkErrno(t, "Commit", v.Commit(), api.OK)
	checkObjects(t, "refused", s, was)
	most := vault.Lump{Kind: 1, Bytes: some(1, 1<<17)}
	put(t, v, most, true)
	put(t, v, lump(1, ""), true)
	checkErrno(t, "Commit", v.Commit(), api.OK)
	checkTold(t, "edges", open(t, s, "u", 1), most, lump(1, ""), lump(1, "a"), lump(2, "a"))
}

// P16.1: an index may tell of a blob that is too big: it is refused all the same.
func TestPutBigInTable(t *testing.T) {
	s := newShelf(t, room)
	big := vault.Lump{Kind: 1, Bytes: make([]byte, 1<<17+1)}
	name, b := fileOf(t, pen("t"), fileWith(index.Pack{Name: "p/a", Entries: []pack.Entry{{Id: idOf(big), Kind: 1, Len: 48}}}))
	forge(t, s, name, b)
	checkPut(t, open(t, s, "u", 1), api.ErrBig, 1, big.Bytes)
}

// P16.1: the parts of a blob are one behind the other.
func TestPutParts(t *testing.T) {
	s := newShelf(t, room)
	v := open(t, s, "t", 1000)
	id, ok, e := v.Put(1, []byte("ab"), nil, []byte("c"))
	if id != idOf(lump(1, "abc")) || !ok || e != api.OK {
		t.Error(id, ok, e)
	}
	put(t, v, lump(1, "abc"), false)
	put(t, v, lump(2, "abc"), true)
	if id, ok, e := v.Put(2); id != idOf(lump(2, "")) || !ok || e != api.OK {
		t.Error(id, ok, e)
	}
	checkTold(t, "waiting", v, lump(1, "abc"), lump(2, "abc"), lump(2, ""))
}

// waits: does the blob wait? (It is told without any object then.)
func waits(t *testing.T, v *vault.Vault, x vault.Lump) bool {
	t.Helper()
	_, kept := v.Find(idOf(x))
	return !kept
}

// P16.1: Flush comes when what waits, sealed, has as many bytes as the target.
func TestTarget(t *testing.T) {
	for target, count := range map[int]int{1: 1, 48: 1, 49: 1, 50: 2, 98: 2, 99: 3, 490: 10, 491: 11} {
		s := newShelf(t, room)
		v := open(t, s, "t", target)
		for i := range 3 * count {
			x := lump(1, string(rune('A'+i)))
			put(t, v, x, true)
			if got, want := len(names(t, s, "p/")), (i+1)/count; got != want || waits(t, v, x) != ((i+1)%count != 0) {
				t.Errorf("target %d: %d packs behind %d blobs, not %d", target, got, i+1, want)
			}
			checkTold(t, "at once", v, x)
		}
		checkFiles(t, "no Commit", v)
		if got := len(names(t, s, "x/")); got != 0 {
			t.Error(got, "indexes")
		}
	}
}

// P16.1: where a pack has no more room, it is flushed ahead of its target, and the blob is the next one's first.
func TestFullPack(t *testing.T) {
	s := newShelf(t, room)
	v := open(t, s, "t", 800000)
	for i := range 1000 {
		put(t, v, lumps(i, 1)[0], true)
	}
	if n := len(names(t, s, "")); n != 0 {
		t.Error(n, "objects behind 1000 blobs")
	}
	put(t, v, lump(1, "one more"), true)
	if l := v.Packs(); len(l) != 1 || len(l[0].Entries) != 1000 || !waits(t, v, lump(1, "one more")) {
		t.Error(len(l), "packs behind 1001 blobs")
	}
	put(t, v, lumps(0, 1)[0], false)
	checkErrno(t, "Commit", v.Commit(), api.OK)

	s = newShelf(t, room)
	v = open(t, s, "t", 800000)
	var l []vault.Lump // 6 blobs of the most bytes have 786720, sealed: 13279 more are one less than the target
	for i := range 6 {
		l = append(l, vault.Lump{Kind: 1, Bytes: some(int64(i), 1<<17)})
	}
	l = append(l, vault.Lump{Kind: 2, Bytes: some(7, 13279-48)})
	for _, x := range l {
		put(t, v, x, true)
	}
	if n := len(names(t, s, "")); n != 0 {
		t.Error(n, "objects behind 799999 bytes")
	}
	fits := vault.Lump{Kind: 1, Bytes: some(8, 900000-799999-48+1)} // one byte too many
	put(t, v, fits, true)
	if l := v.Packs(); len(l) != 1 || len(l[0].Entries) != 7 || !waits(t, v, fits) {
		t.Error(len(l), "packs behind 900001 bytes")
	}
	checkErrno(t, "Commit", v.Commit(), api.OK)
	checkTold(t, "all", open(t, s, "u", 1), append(l, fits)...)
}

// P16.1: as many bytes as there may be go into one pack.
func TestJustFull(t *testing.T) {
	s := newShelf(t, room)
	v := open(t, s, "t", 800000)
	var l []vault.Lump
	for i := range 6 {
		l = append(l, vault.Lump{Kind: 1, Bytes: some(int64(i), 1<<17)})
	}
	l = append(l, vault.Lump{Kind: 2, Bytes: some(7, 13279-48)}, vault.Lump{Kind: 1, Bytes: some(8, 900000-799999-48)})
	for _, x := range l {
		put(t, v, x, true)
	}
	if got := v.Packs(); len(got) != 1 || len(got[0].Entries) != 8 {
		t.Error(len(got), "packs behind 900000 bytes")
	}
	checkTold(t, "all", v, l...)
}

// P16.1: Get of what isn't there, or is of another kind, waiting or kept.
func TestGetEdges(t *testing.T) {
	s := newShelf(t, room)
	v := open(t, s, "t", 1000)
	a, b := lump(1, "a"), lump(2, "b")
	check := func(what string, want api.Errno) {
		t.Helper()
		for kind := -1; kind < 4; kind++ {
			for _, x := range []vault.Lump{a, b} {
				wanted := want
				if kind == x.Kind && want == api.ErrCorrupt {
					wanted = api.OK
				}
				if got, e := v.Get(kind, idOf(x)); e != wanted || e != api.OK && got != nil {
					t.Errorf("%s: Get(%d, of kind %d): %q, %d", what, kind, x.Kind, got, e)
				}
			}
		}
		for _, kind := range []int{math.MinInt, 257, 1<<32 + 1, math.MaxInt} {
			if got, e := v.Get(kind, idOf(a)); got != nil || e != want {
				t.Errorf("%s: Get(%d, ..): %q, %d", what, kind, got, e)
			}
		}
		checkUntold(t, what, v, api.ErrMiss, lump(2, "a"), lump(1, "b"), lump(1, ""))
		if got, e := v.Get(1, api.Id{}); got != nil || e != api.ErrMiss {
			t.Errorf("%s: %q, %d", what, got, e)
		}
	}
	check("nothing", api.ErrMiss)
	put(t, v, a, true)
	put(t, v, b, true)
	check("waiting", api.ErrCorrupt)
	checkErrno(t, "Flush", v.Flush(), api.OK)
	check("kept", api.ErrCorrupt)
	checkErrno(t, "Commit", v.Commit(), api.OK)
	v = open(t, s, "u", 1)
	check("opened", api.ErrCorrupt)
}

// P16.1: without power what is kept isn't told, what waits is; what isn't there, or of another kind, is known without it.
func TestGetWithoutPower(t *testing.T) {
	s := newShelf(t, room)
	v := open(t, s, "t", 1000)
	kept, waiting := lump(1, "kept"), lump(1, "waiting")
	commit(t, v, kept)
	put(t, v, waiting, true)
	s.Arm(0)
	s.Nudge()
	checkUntold(t, "off", v, api.ErrDown, kept)
	checkTold(t, "off", v, waiting)
	checkUntold(t, "off", v, api.ErrMiss, lump(1, "none"))
	if b, e := v.Get(2, idOf(kept)); b != nil || e != api.ErrCorrupt {
		t.Error(b, e)
	}
	put(t, v, kept, false)
	put(t, v, waiting, false)
	s.Crash()
	checkTold(t, "on", v, kept, waiting)
}

// P16.1: a Flush that fails gives up what waited; it may be put anew.
func TestFlushFails(t *testing.T) {
	a, b, c := lump(1, "kept"), lump(1, "given up"), lump(2, "more")
	s := newShelf(t, 4000)
	v := open(t, s, "t", 800000)
	commit(t, v, a)
	put(t, v, b, true)
	was := objects(t, s)
	forge(t, s, "fill", string(make([]byte, 4000)))
	checkErrno(t, "Flush", v.Flush(), api.ErrFull)
	s.Steal("fill")
	checkObjects(t, "refused", s, was)
	checkUntold(t, "given up", v, api.ErrMiss, b)
	checkTold(t, "kept", v, a)
	checkErrno(t, "nothing waits", v.Flush(), api.OK)
	checkErrno(t, "nothing is loose", v.Commit(), api.OK)
	checkObjects(t, "nothing", s, was)
	commit(t, v, b, c)
	checkTold(t, "anew", open(t, s, "u", 1), a, b, c)
}

// P16.1: a Put whose Flush fails answers that, and its own blob is given up, too, whether Flush came behind or ahead of it.
func TestPutFlushFails(t *testing.T) {
	s := newShelf(t, 200)
	v := open(t, s, "t", 98)
	put(t, v, lump(1, "a"), true)
	checkPut(t, v, api.ErrFull, 1, []byte("b"))
	checkUntold(t, "given up", v, api.ErrMiss, lump(1, "a"), lump(1, "b"))
	checkObjects(t, "nothing", s, nil)
	put(t, v, lump(1, "b"), true)

	s = newShelf(t, 200)
	v = open(t, s, "t", 800000)
	for i := range 1000 {
		put(t, v, lumps(i, 1)[0], true)
	}
	checkPut(t, v, api.ErrFull, 1, []byte("one more"))
	checkUntold(t, "given up", v, api.ErrMiss, append(lumps(0, 1000), lump(1, "one more"))...)
	checkErrno(t, "nothing waits", v.Flush(), api.OK)

	s = newShelf(t, room)
	v = open(t, s, "t", 1)
	s.Arm(2)
	checkPut(t, v, api.ErrDown, 1, []byte("a"))
	checkPut(t, v, api.ErrDown, 1, []byte("a"))
	s.Crash()
	put(t, v, lump(1, "a"), true)
	checkTold(t, "anew", v, lump(1, "a"))
}

// P16.1: a Commit whose index can't be published has flushed: the packs are loose still, and the next one tells of them.
func TestCommitFails(t *testing.T) {
	for n := 3; n < 6; n++ {
		s := newShelf(t, room)
		v := open(t, s, "t", 1000)
		put(t, v, lump(1, "a"), true)
		s.Arm(n) // the pack takes three changes
		checkErrno(t, "Commit", v.Commit(), api.ErrDown)
		s.Crash(1 << 20)
		checkFiles(t, "refused", v)
		checkTold(t, "kept", v, lump(1, "a"))
		put(t, v, lump(1, "a"), false)
		put(t, v, lump(1, "b"), true)
		checkErrno(t, "Commit", v.Commit(), api.OK)
		checkTold(t, "anew", open(t, s, "u", 1), lump(1, "a"), lump(1, "b"))
		if len(names(t, s, "x/")) != 1 || len(readFile(t, s, names(t, s, "x/")[0]).Packs) != 2 {
			t.Error(names(t, s, ""))
		}
	}
}

// P16.1: what is published anew just as it was is one file.
func TestCommitOfTheSame(t *testing.T) {
	s := newShelf(t, room)
	v := open(t, s, "t", 1000)
	commit(t, v, lumps(0, 3)...)
	was := objects(t, s)
	w := open(t, s, "t", 1000)
	w.Drop(w.Packs()[0].Name)
	commit(t, w, lumps(0, 3)...)
	checkObjects(t, "again", s, was)
	checkFiles(t, "again", w, v.Files()...)
	checkTold(t, "again", w, lumps(0, 3)...)
}

// P16.1: more loose packs than an index tells of: its error, and they stay.
func TestCommitOfTooMany(t *testing.T) {
	s := newShelf(t, room)
	v := open(t, s, "t", 1)
	for i := range 1000 {
		put(t, v, lumps(i, 1)[0], true)
	}
	checkErrno(t, "1000", v.Commit(), api.OK)
	for i := range 900 {
		put(t, v, lumps(1000+i, 1)[0], true)
	}
	checkErrno(t, "900 more", v.Commit(), api.OK)
	checkTold(t, "all", open(t, s, "u", 1), lumps(0, 1900)...)

	s = newShelf(t, room)
	v = open(t, s, "t", 1)
	for i := range 1001 {
		put(t, v, lumps(i, 1)[0], true)
	}
	checkErrno(t, "1001", v.Commit(), api.ErrForm)
	checkFiles(t, "1001", v)
	checkTold(t, "1001", v, lumps(0, 1001)...)
}

// P1, P16.1: a nil vault; one that Open didn't make.
func TestNoVault(t *testing.T) {
	var v *vault.Vault
	checkPut(t, v, api.ErrArg, 1, []byte("a"))
	checkPut(t, v, api.ErrArg, 7, make([]byte, 1<<17+1))
	checkUntold(t, "nil", v, api.ErrArg, lump(1, "a"))
	checkErrno(t, "Flush", v.Flush(), api.ErrArg)
	checkErrno(t, "Commit", v.Commit(), api.ErrArg)
	checkErrno(t, "Replace", v.Replace(nil), api.ErrArg)
	checkFiles(t, "nil", v)
	if l, e := v.Anew(lump(1, "a")); l != nil || e != api.ErrArg {
		t.Error(l, e)
	}
	if a, b := v.Twins(); a != nil || b != nil {
		t.Error(a, b)
	}
	v = new(vault.Vault)
	checkPut(t, v, api.ErrArg, 1, []byte("a"))
	checkUntold(t, "bare", v, api.ErrMiss, lump(1, "a"))
	v.Flush()
	v.Commit()
	checkErrno(t, "Replace", v.Replace(nil), api.ErrArg)
	checkFiles(t, "bare", v)
	if l, e := v.Anew(lump(1, "a")); l != nil || e != api.ErrArg {
		t.Error(l, e)
	}
	if a, b := v.Twins(); a != nil || b != nil {
		t.Error(a, b)
	}
}

// P16.1: a vault has its pen's calls, and its table's: they know what is kept.
func TestPromoted(t *testing.T) {
	s := newShelf(t, room)
	v := open(t, s, "t", 1000)
	x := lump(1, "a")
	if v.Id(1, x.Bytes) != idOf(x) || v.Ring != ring(1) {
		t.Error("Id")
	}
	b, e := v.Write(1, "n", []byte("b"))
	if c, f := v.Seal(1, "n", pen("t").Nonce(), []byte("b")); !slices.Equal(b, c) || e != api.OK || f != api.OK {
		t.Error("Write", e, f)
	}
	if c, e := v.Open(1, "n", b); string(c) != "b" || e != api.OK {
		t.Error("Open", e)
	}
	if len(v.Ids())+len(v.Packs()) != 0 {
		t.Error("Ids")
	}
	put(t, v, x, true)
	if _, ok := v.Find(idOf(x)); ok || len(v.Ids()) != 0 {
		t.Error("Find of what waits")
	}
	checkErrno(t, "Flush", v.Flush(), api.OK)
	if p, ok := v.Find(idOf(x)); !ok || p.Kind != 1 || p.Pack != v.Packs()[0].Name || p.Off != 0 || p.Len != 49 || !slices.Equal(v.Ids(), []api.Id{idOf(x)}) {
		t.Error("Find", p, ok)
	}
	w, e := vault.Open(s, key.Pen{Ring: ring(1)}, 1) // a pen without a tape
	checkErrno(t, "Open", e, api.OK)
	put(t, w, x, true)
	checkErrno(t, "Commit", w.Commit(), api.OK)
	checkTold(t, "no tape", w, x)
}

// P16.1, rule 4: what is handed in isn't changed or kept; answers are new memory.
func TestNothingIsKept(t *testing.T) {
	s := newShelf(t, room)
	v := open(t, s, "t", 800000)
	roomy := []byte("abcdef")
	if _, _, e := v.Put(1, roomy[:2], roomy[2:3]); e != api.OK || string(roomy) != "abcdef" {
		t.Errorf("%d, %q", e, roomy)
	}
	clear(roomy)
	x := lump(1, "abc")
	for i := range 4 {
		b, e := v.Get(1, idOf(x))
		if string(b) != "abc" || e != api.OK {
			t.Errorf("%q, %d", b, e)
		}
		clear(b[:cap(b)])
		if i == 1 {
			checkErrno(t, "Commit", v.Commit(), api.OK)
			checkErrno(t, "Commit", v.Commit(), api.OK)
		}
	}
	files := v.Files()
	clear(files[:cap(files)])
	checkFiles(t, "Files", v, names(t, s, "x/")...)
}
