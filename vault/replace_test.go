package vault_test

import (
	"fmt"
	"slices"
	"testing"

	"hypogeum/api"
	"hypogeum/index"
	"hypogeum/pack"
	"hypogeum/shelf"
	"hypogeum/vault"
)

// P16.1: what stays behind a Replace: the packs, one index of them whose Old is all files, and what has other names.
func TestReplace(t *testing.T) {
	s := newShelf(t, room)
	v := open(t, s, "t", 150)
	_, e := goOn(t, v)
	checkErrno(t, "goOn", e, api.OK)
	others := []string{"config", "k/00", "l/00-0", "s/00000001", "w/0", "p", "t", "x", "pp/a", "tt/a"}
	for _, name := range others {
		forge(t, s, name, name)
	}
	for _, name := range []string{"p/", "p/a", "t/a", "t/", draftOf("config"), "p/a/b"} {
		forge(t, s, name, name)
	}
	packs, files := v.Packs(), v.Files()
	keep := []index.Pack{packs[3], packs[0], packs[2]}
	put(t, v, lump(1, "waits"), true)
	checkErrno(t, "Replace", v.Replace(keep), api.OK)
	keep = byName(keep...)
	checkFiles(t, "Replace", v, names(t, s, "x/")...)
	if f := readFile(t, s, v.Files()[0]); len(v.Files()) != 1 || !alikePacks(f.Packs, keep) || !slices.Equal(f.Old, files) {
		t.Error(v.Files(), f.Old)
	}
	if !alikePacks(v.Packs(), keep) || !alikePacks(open(t, s, "u", 1).Packs(), keep) {
		t.Error("packs")
	}
	want := append([]string{keep[0].Name, keep[1].Name, keep[2].Name, v.Files()[0]}, others...)
	slices.Sort(want)
	if got := names(t, s, ""); !slices.Equal(got, want) {
		t.Errorf("there are %v, not %v", got, want)
	}
	checkUntold(t, "given up", v, api.ErrMiss, lump(1, "waits"))
	checkErrno(t, "Commit", v.Commit(), api.OK)
	if got := names(t, s, ""); !slices.Equal(got, want) {
		t.Error("something was loose, or waited")
	}
	put(t, v, lump(1, "waits"), true)
}

// P16.1: one file that has just these packs: no other is published; else one is.
func TestReplaceOfTheSame(t *testing.T) {
	s := newShelf(t, room)
	v := open(t, s, "t", 150)
	commit(t, v, lumps(0, 8)...)
	was, steps := objects(t, s), s.Steps()
	packs := v.Packs()
	slices.Reverse(packs)
	for _, v := range []*vault.Vault{v, open(t, s, "u", 1)} {
		checkErrno(t, "Replace", v.Replace(packs), api.OK)
		checkObjects(t, "Replace", s, was)
		if s.Steps() != steps {
			t.Error(s.Steps()-steps, "changes")
		}
	}
	// A draft and a pack that no file has go by it.
	forge(t, s, "t/a", "")
	forge(t, s, "p/a", "")
	checkErrno(t, "Replace", v.Replace(packs), api.OK)
	checkObjects(t, "Replace", s, was)
	// So does what was flushed only.
	put(t, v, lump(1, "loose"), true)
	checkErrno(t, "Flush", v.Flush(), api.OK)
	checkErrno(t, "Replace", v.Replace(packs), api.OK)
	checkObjects(t, "Replace", s, was)
	checkUntold(t, "loose", v, api.ErrMiss, lump(1, "loose"))
	checkErrno(t, "Commit", v.Commit(), api.OK)
	checkObjects(t, "Commit", s, was)
	if !alikePacks(v.Packs(), byName(packs...)) {
		t.Error("packs")
	}
	// What differs in a blob's place alone isn't the same.
	other := byName(packs...)
	last := &other[0].Entries[len(other[0].Entries)-1]
	last.Len--
	checkErrno(t, "Replace", v.Replace(other), api.OK)
	if f := readFile(t, s, v.Files()[0]); !alikePacks(f.Packs, other) || len(names(t, s, "x/")) != 1 {
		t.Error("another Len")
	}
	checkErrno(t, "Replace", v.Replace(packs[1:]), api.OK)
	if f := readFile(t, s, v.Files()[0]); !alikePacks(f.Packs, byName(packs[1:]...)) || len(names(t, s, "x/")) != 1 {
		t.Error("fewer")
	}
}

// P16.1: two files that have just these packs are two.
func TestReplaceOfTwoFiles(t *testing.T) {
	s := newShelf(t, room)
	v := open(t, s, "t", 150)
	commit(t, v, lumps(0, 8)...)
	commit(t, v, lumps(8, 4)...)
	files := v.Files()
	if len(files) != 2 {
		t.Fatal(files)
	}
	checkErrno(t, "Replace", v.Replace(v.Packs()), api.OK)
	if f := readFile(t, s, v.Files()[0]); len(v.Files()) != 1 || !slices.Equal(f.Old, files) || len(names(t, s, "x/")) != 1 {
		t.Error(v.Files(), f.Old)
	}
	checkTold(t, "all", open(t, s, "u", 1), lumps(0, 12)...)
}

// P16.1: no packs: an index of none; a second time it is there.
func TestReplaceByNone(t *testing.T) {
	for _, some := range []bool{false, true} {
		s := newShelf(t, room)
		v := open(t, s, "t", 150)
		if some {
			commit(t, v, lumps(0, 8)...)
		}
		checkErrno(t, "Replace", v.Replace(nil), api.OK)
		l := names(t, s, "")
		if len(l) != 1 || len(readFile(t, s, l[0]).Packs) != 0 {
			t.Error(l)
		}
		was := objects(t, s)
		for _, v := range []*vault.Vault{v, open(t, s, "u", 1)} {
			checkErrno(t, "Replace", v.Replace([]index.Pack{}), api.OK)
			checkObjects(t, "again", s, was)
		}
		checkUntold(t, "none", v, api.ErrMiss, lumps(0, 8)...)
		commit(t, v, lumps(0, 8)...)
	}
}

// P16.1: packs that no index may have: refused, and nothing is changed.
func TestReplaceErrors(t *testing.T) {
	good := pack.Entry{Id: api.Id{1}, Kind: 1, Len: 50}
	var many []index.Pack
	for i := range 1001 {
		many = append(many, index.Pack{Name: fmt.Sprint("p/", 10000+i), Entries: []pack.Entry{good}})
	}
	big := slices.Clone(many[:60])
	for i := range big {
		big[i].Entries = nil
		for j := range 1000 {
			big[i].Entries = append(big[i].Entries, pack.Entry{Id: api.Id{byte(j), byte(j >> 8)}, Kind: 1, Off: 50 * j, Len: 50})
		}
	}
	for _, x := range []struct {
		what  string
		packs []index.Pack
		want  api.Errno
	}{
		{"1001", many, api.ErrForm}, {"no entries", []index.Pack{{Name: "p/a"}}, api.ErrForm}, {"a name", []index.Pack{{Name: "q/a", Entries: many[0].Entries}}, api.ErrForm},
		{"one twice", []index.Pack{many[0], many[0]}, api.ErrForm}, {"a kind", []index.Pack{{Name: "p/a", Entries: []pack.Entry{{Kind: 3, Len: 50}}}}, api.ErrForm},
		{"too many bytes", big, api.ErrBig}, {"no room", many[:900], api.ErrFull},
	} {
		s := newShelf(t, 4000)
		v := open(t, s, "t", 1000)
		commit(t, v, lumps(0, 3)...)
		put(t, v, lump(1, "loose"), true)
		checkErrno(t, "Flush", v.Flush(), api.OK)
		put(t, v, lump(1, "waits"), true)
		was, files := objects(t, s), v.Files()
		checkErrno(t, x.what, v.Replace(x.packs), x.want)
		checkObjects(t, x.what, s, was)
		checkFiles(t, x.what, v, files...)
		checkTold(t, x.what, v, append(lumps(0, 3), lump(1, "loose"), lump(1, "waits"))...)
		checkErrno(t, "Commit", v.Commit(), api.OK)
		checkTold(t, x.what, open(t, s, "u", 1), append(lumps(0, 3), lump(1, "loose"), lump(1, "waits"))...)
	}
}

// P16.1, rule 4: what is handed in isn't changed or kept.
func TestReplaceKeepsNothing(t *testing.T) {
	s := newShelf(t, room)
	v := open(t, s, "t", 150)
	commit(t, v, lumps(0, 8)...)
	packs, want := v.Packs(), v.Packs()
	slices.Reverse(packs)
	slices.Reverse(want)
	l := packs[:2] // not all: so an index is published
	checkErrno(t, "Replace", v.Replace(l), api.OK)
	if !alikePacks(packs, want) {
		t.Error("changed")
	}
	for _, p := range l {
		clear(p.Entries)
	}
	clear(l)
	if !alikePacks(v.Packs(), byName(want[:2]...)) {
		t.Error("kept")
	}
	was := objects(t, s)
	checkErrno(t, "Replace", v.Replace(want[:2]), api.OK) // the file's packs aren't kept either
	checkObjects(t, "Replace", s, was)
}

// P16.5, P16.2: Replace broken off at each step, and done again, comes to its end, however often; what the packs have is told all the time.
func TestReplaceBrokenOff(t *testing.T) {
	for begin := range 30 {
		for _, pick := range []int{0, 7, 1 << 20} {
			s := newShelf(t, room)
			v := open(t, s, "t", 150)
			_, e := goOn(t, v)
			checkErrno(t, "goOn", e, api.OK)
			forge(t, s, "p/a", "")
			forge(t, s, "t/a", "")
			keep := v.Packs()[1:4]
			var blobs []vault.Lump
			for _, x := range lumps(0, 14) {
				if p, _ := v.Find(idOf(x)); slices.ContainsFunc(keep, func(k index.Pack) bool { return k.Name == p.Pack }) {
					blobs = append(blobs, x)
				}
			}
			breakOff(t, s, v, begin, pick, keep, blobs)
		}
	}
}

// breakOff: Replace, broken off behind so many changes, then fewer, then at once, then not at all.
func breakOff(t *testing.T, s *shelf.Shelf, v *vault.Vault, begin, pick int, keep []index.Pack, blobs []vault.Lump) {
	t.Helper()
	for _, n := range []int{begin, begin * 2 / 3, begin / 3, 0, 1000} {
		what := fmt.Sprint(begin, n, pick)
		s.Arm(n)
		e := v.Replace(keep)
		if s.Off() != (e == api.ErrDown) || e != api.OK && e != api.ErrDown {
			t.Fatal(what, e)
		}
		s.Crash(pick)
		checkOrder(t, what, s)
		v = open(t, s, what, 150)
		checkTold(t, what, v, blobs...)
	}
	for _, v := range []*vault.Vault{v, open(t, s, "w", 150)} {
		checkErrno(t, "again", v.Replace(keep), api.OK)
		if !alikePacks(v.Packs(), keep) || len(names(t, s, "x/")) != 1 || len(names(t, s, "p/")) != len(keep) || len(names(t, s, "t/")) != 0 {
			t.Error(begin, names(t, s, ""))
		}
		checkTold(t, "again", v, blobs...)
	}
}

// checkOrder: whatever index is there, its packs are: indexes go first.
func checkOrder(t *testing.T, what string, s *shelf.Shelf) {
	t.Helper()
	for _, name := range names(t, s, "x/") {
		for _, p := range readFile(t, s, name).Packs {
			if _, e := s.Get(p.Name); e != api.OK {
				t.Errorf("%s: %s is there, %s isn't", what, name, p.Name)
			}
		}
	}
}

// P16.5: broken off and done again with other packs, and what was committed in between.
func TestReplaceInBetween(t *testing.T) {
	for n := range 25 {
		for m := range 25 {
			s := newShelf(t, room)
			v := open(t, s, "t", 150)
			_, e := goOn(t, v)
			checkErrno(t, "goOn", e, api.OK)
			packs := v.Packs()
			s.Arm(n)
			e = v.Replace(packs[1:])
			s.Crash()
			v = open(t, s, "u", 150)
			if more := lump(2, "more"); e != api.OK {
				commit(t, v, more)
			} else {
				put(t, v, more, true)
			}
			s.Arm(m)
			v.Replace(packs[2:])
			s.Crash()
			v = open(t, s, "v", 150)
			for _, x := range lumps(0, 14) {
				if p, ok := v.Find(idOf(x)); ok && slices.ContainsFunc(packs[2:], func(k index.Pack) bool { return k.Name == p.Pack }) {
					checkTold(t, "in between", v, x)
				}
			}
			checkErrno(t, "at last", v.Replace(packs[2:]), api.OK)
			if !alikePacks(open(t, s, "w", 1).Packs(), packs[2:]) || len(names(t, s, "")) != len(packs)-1 {
				t.Error(n, m, names(t, s, ""))
			}
		}
	}
}

// P16.1: Anew: packs of their own, whatever is there; the table doesn't have them.
func TestAnew(t *testing.T) {
	s := newShelf(t, room)
	v := open(t, s, "t", 1)
	l := lumps(0, 5)
	commit(t, v, l[:3]...)
	put(t, v, l[3], true)
	was, before := objects(t, s), v.Packs()
	packs, e := v.Anew(l[4], l[0], l[0], l[2], l[4], l[1])
	if e != api.OK || len(packs) != 1 || !slices.EqualFunc(packs[0].Entries, []vault.Lump{l[4], l[0], l[2], l[1]}, func(x pack.Entry, y vault.Lump) bool { return x.Id == idOf(y) && x.Kind == y.Kind }) {
		t.Error(packs, e)
	}
	b, _ := s.Get(packs[0].Name)
	if got, e := pack.Entries(ring(1), b); e != api.OK || !slices.Equal(got, packs[0].Entries) || packs[0].Name != "p/"+digits(b) {
		t.Error(got, e)
	}
	if !alikePacks(v.Packs(), before) {
		t.Error("the table has them")
	}
	checkUntold(t, "of Anew alone", v, api.ErrMiss, l[4])
	was[packs[0].Name] = string(b)
	checkObjects(t, "Anew", s, was)
	checkErrno(t, "Replace", v.Replace(packs), api.OK)
	checkTold(t, "replaced", open(t, s, "u", 1), l[0], l[1], l[2], l[4])
	if packs, e := v.Anew(); len(packs) != 0 || e != api.OK {
		t.Error(packs, e)
	}
}

// P16.1: as many in each pack as there may be, whatever the target; each name once in a pack.
func TestAnewOfMany(t *testing.T) {
	s := newShelf(t, room)
	v := open(t, s, "t", 1)
	l := append(lumps(0, 1000), lumps(0, 1)...)
	l = append(l, lumps(1000, 1)...)
	l = append(l, lumps(1, 1)...)
	packs, e := v.Anew(l...)
	if e != api.OK || len(packs) != 2 || len(packs[0].Entries) != 1000 || len(packs[1].Entries) != 2 {
		t.Fatal(len(packs), e)
	}
	if packs[1].Entries[0].Id != idOf(l[1001]) || packs[1].Entries[1].Id != idOf(l[1]) || packs[1].Entries[0].Off != 0 {
		t.Error("the second pack")
	}
	for _, p := range packs {
		if b, e := s.Get(p.Name); e != api.OK || p.Name != "p/"+digits(b) {
			t.Error(p.Name, e)
		}
	}
	var big []vault.Lump
	for i := range 8 {
		big = append(big, vault.Lump{Kind: 1 + i%2, Bytes: some(int64(i), 1<<17)})
	}
	packs, e = v.Anew(big...)
	if e != api.OK || len(packs) != 2 || len(packs[0].Entries) != 6 || len(packs[1].Entries) != 2 {
		t.Error(len(packs), e)
	}
}

// P16.1, rule 5: what Anew refuses leaves nothing.
func TestAnewErrors(t *testing.T) {
	good := append(lumps(0, 1000), lump(1, "one more"))
	for _, x := range []struct {
		bad  vault.Lump
		want api.Errno
	}{
		{lump(0, "a"), api.ErrArg}, {lump(3, "a"), api.ErrArg}, {lump(257, "a"), api.ErrArg}, {lump(-1, ""), api.ErrArg},
		{vault.Lump{Kind: 1, Bytes: make([]byte, 1<<17+1)}, api.ErrBig}, {vault.Lump{Kind: 2, Bytes: make([]byte, 1<<20)}, api.ErrBig},
	} {
		for _, l := range [][]vault.Lump{{x.bad}, {good[0], x.bad}, {x.bad, good[0]}, append(slices.Clone(good), x.bad)} {
			s := newShelf(t, room)
			v := open(t, s, "t", 1)
			if packs, e := v.Anew(l...); packs != nil || e != x.want {
				t.Error(len(packs), e, x.want)
			}
			checkObjects(t, "refused", s, nil)
		}
	}
}

// P16.1, rule 5: no room, or no power, for a pack behind the first: those ahead don't stay, if that can be; what was there ahead does.
func TestAnewWithoutRoom(t *testing.T) {
	l := lumps(0, 1000)
	for i := range 4 {
		l = append(l, vault.Lump{Kind: 1, Bytes: some(int64(i), 1<<17)})
	}
	s := newShelf(t, room)
	packs, e := open(t, s, "t", 1).Anew(l...)
	if e != api.OK || len(packs) != 2 {
		t.Fatal(len(packs), e)
	}
	first, _ := s.Get(packs[0].Name)
	for _, there := range []bool{false, true} {
		s = newShelf(t, 2*len(first))
		v := open(t, s, "t", 1)
		if there {
			forge(t, s, packs[0].Name, string(first))
		}
		was := objects(t, s)
		if packs, e := v.Anew(l...); packs != nil || e != api.ErrFull {
			t.Error(len(packs), e)
		}
		checkObjects(t, "refused", s, was)
	}
	for n := range 7 {
		s = newShelf(t, room)
		v := open(t, s, "t", 1)
		s.Arm(n)
		packs, e := v.Anew(l...)
		if (e == api.OK) != (n == 6) || e != api.OK && (e != api.ErrDown || packs != nil) {
			t.Error(n, len(packs), e)
		}
		s.Crash()
		checkWhole(t, "Anew", s)
		if got := len(names(t, s, "p/")); got != n/3 {
			t.Error(n, got, "packs")
		}
	}
}

// P16.1, rule 4: what is handed in isn't changed or kept; what is answered is new memory.
func TestAnewKeepsNothing(t *testing.T) {
	s := newShelf(t, room)
	v := open(t, s, "t", 1)
	b := []byte("abcdef")
	l := []vault.Lump{{Kind: 1, Bytes: b[:3]}, {Kind: 2, Bytes: b[3:5]}, lump(1, "spare")}[:2]
	packs, e := v.Anew(l...)
	if e != api.OK || string(b) != "abcdef" || string(l[:3][2].Bytes) != "spare" {
		t.Error(e, b)
	}
	checkErrno(t, "Replace", v.Replace(packs), api.OK)
	clear(b)
	clear(packs[0].Entries)
	checkTold(t, "Anew", v, lump(1, "abc"), lump(2, "de"))
}
