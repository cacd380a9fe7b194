package vault_test

import (
	"fmt"
	"maps"
	"strings"
	"testing"

	"hypogeum/api"
	"hypogeum/shelf"
	"hypogeum/vault"
)

func forge(t *testing.T, s *shelf.Shelf, name, b string) {
	t.Helper()
	if e := s.Forge(name, []byte(b)); e != api.OK {
		t.Fatal("Forge", name, e)
	}
}

// P16.1: the object is there, in so many changes, with its bytes alone, and no draft.
func TestPublish(t *testing.T) {
	for _, b := range []string{"", "x", "some bytes", strings.Repeat("y", 1<<20)} {
		for _, name := range []string{"a", "p/a", "s/00000001", "t/x", strings.Repeat("n", 64)} {
			for _, elder := range []bool{false, true} {
				s := newShelf(t, room)
				forge(t, s, "other", "z")
				want, changes := map[string]string{"other": "z", name: b}, 3
				if elder {
					forge(t, s, draftOf(name), "an elder draft")
					changes++
				}
				checkErrno(t, "Publish", vault.Publish(s, name, []byte(b)), api.OK)
				if s.Steps() != changes {
					t.Error(s.Steps(), "changes")
				}
				checkObjects(t, "Publish", s, want)
				s.Crash()
				checkObjects(t, "behind a crash", s, want)
			}
		}
	}
}

// P16.1: a name that is there already: its bytes stay, no draft does.
func TestPublishThere(t *testing.T) {
	for _, b := range []string{"", "there", "other"} {
		for _, elder := range []bool{false, true} {
			s := newShelf(t, room)
			forge(t, s, "a", "there")
			if elder {
				forge(t, s, draftOf("a"), "elder")
			}
			checkErrno(t, "Publish", vault.Publish(s, "a", []byte(b)), api.ErrThere)
			checkObjects(t, "Publish", s, map[string]string{"a": "there"})
		}
	}
}

// P16.1: errors of the store, which leave nothing.
func TestPublishErrors(t *testing.T) {
	checkErrno(t, "no store", vault.Publish(nil, "a", nil), api.ErrArg)
	for _, name := range []string{"", "A", "a b", "é", strings.Repeat("n", 65)} {
		s := newShelf(t, room)
		forge(t, s, "other", "z")
		checkErrno(t, fmt.Sprintf("%q", name), vault.Publish(s, name, []byte("x")), api.ErrName)
		checkObjects(t, "ErrName", s, map[string]string{"other": "z"})
	}
	s := newShelf(t, 10)
	forge(t, s, "other", "12345")
	checkErrno(t, "no room", vault.Publish(s, "a", []byte("123456")), api.ErrFull)
	checkErrno(t, "too big", vault.Publish(s, "a", make([]byte, 1<<20+1)), api.ErrBig)
	checkObjects(t, "no room", s, map[string]string{"other": "12345"})
	checkErrno(t, "room", vault.Publish(s, "a", []byte("12345")), api.OK)
	checkErrno(t, "full", vault.Publish(s, "b", []byte("x")), api.ErrFull)
	forge(t, s, draftOf("b"), "1")
	checkErrno(t, "an elder draft", vault.Publish(s, "b", []byte("x")), api.ErrFull)
	checkObjects(t, "an elder draft", s, map[string]string{"other": "12345", "a": "12345"})

	s = newShelf(t, room)
	for i := range api.MaxStore {
		forge(t, s, fmt.Sprint("o", i), "")
	}
	checkErrno(t, "2000 objects", vault.Publish(s, "a", nil), api.ErrFull)
}

// P16.1: an elder draft makes room.
func TestPublishElderRoom(t *testing.T) {
	s := newShelf(t, 10)
	forge(t, s, draftOf("a"), "1234567890")
	checkErrno(t, "Publish", vault.Publish(s, "a", []byte("0987654321")), api.OK)
	checkObjects(t, "Publish", s, map[string]string{"a": "0987654321"})
}

// P16.1: wherever the power goes: ErrDown; the object is there wholly or not at all, and can be published then.
func TestPublishWithoutPower(t *testing.T) {
	const b = "all these bytes"
	for _, elder := range []bool{false, true} {
		changes := 3
		if elder {
			changes = 4
		}
		for n := range changes + 1 {
			for pick := range len(b) + 2 {
				s := newShelf(t, room)
				if elder {
					forge(t, s, draftOf("a"), "elder")
				}
				s.Arm(n)
				e := vault.Publish(s, "a", []byte(b))
				if (e == api.OK) != (n == changes) || e != api.OK && e != api.ErrDown || s.Off() != (e == api.ErrDown) {
					t.Fatal(elder, n, e)
				}
				if n < changes {
					checkErrno(t, "off", vault.Publish(s, "a", nil), api.ErrDown)
				}
				s.Crash(pick)
				got := objects(t, s)
				delete(got, draftOf("a"))
				if want := map[string]string{"a": b}; n == changes && !maps.Equal(got, want) || n < changes && len(got) > 0 {
					t.Error(elder, n, pick, got)
				}
				if n < changes {
					checkErrno(t, "anew", vault.Publish(s, "a", []byte(b)), api.OK)
					checkObjects(t, "anew", s, map[string]string{"a": b})
				}
			}
		}
	}
	for n := range 3 { // the name is there: Put, Sync, Delete
		s := newShelf(t, room)
		forge(t, s, "a", "there")
		s.Arm(n)
		checkErrno(t, "there", vault.Publish(s, "a", []byte(b)), api.ErrDown)
		s.Crash()
		checkErrno(t, "there", vault.Publish(s, "a", []byte(b)), api.ErrThere)
		checkObjects(t, "there", s, map[string]string{"a": "there"})
	}
}

// P16.1, rule 4: what is handed in isn't changed or kept.
func TestPublishKeepsNothing(t *testing.T) {
	s := newShelf(t, room)
	b := []byte("abcdef")
	checkErrno(t, "Publish", vault.Publish(s, "a", b[:3]), api.OK)
	if string(b) != "abcdef" {
		t.Error("changed")
	}
	clear(b)
	checkObjects(t, "Publish", s, map[string]string{"a": "abc"})
}

// twin: a store with a vault in which something is to be published; what it is, and the name that it gets.
type twin struct {
	what string
	do   func(v *vault.Vault) api.Errno
	name string // of the object that is in the way
	b    string // what is to be published
}

// twins: each of the calls that publish, with names and bytes that are known as the tape is.
func twins(t *testing.T) []twin {
	l := lumps(40, 3)
	p, b := packOf(t, pen("t"), l...)
	q := pen("t")
	packOf(t, q, l...)
	file, fb := fileOf(t, q, fileWith(p))
	none, nb := fileOf(t, pen("t"), fileWith())
	puts := func(v *vault.Vault) {
		for _, x := range l {
			put(t, v, x, true)
		}
	}
	return []twin{
		{"Flush", func(v *vault.Vault) api.Errno { puts(v); return v.Flush() }, p.Name, b},
		{"Commit, its pack", func(v *vault.Vault) api.Errno { puts(v); return v.Commit() }, p.Name, b},
		{"Commit, its index", func(v *vault.Vault) api.Errno { puts(v); return v.Commit() }, file, fb},
		{"Anew", func(v *vault.Vault) api.Errno { _, e := v.Anew(l...); return e }, p.Name, b},
		{"Replace", func(v *vault.Vault) api.Errno { return v.Replace(nil) }, none, nb},
	}
}

// P16.1: another object by the name of a pack or an index: both are kept, ErrThere.
func TestTwins(t *testing.T) {
	for _, x := range twins(t) {
		for _, other := range []string{"other bytes", "", x.b[:len(x.b)-1]} {
			s := newShelf(t, room)
			v := open(t, s, "t", 800000) // ahead of Forge: an index that is none is told by Open
			forge(t, s, x.name, other)
			checkErrno(t, x.what, x.do(v), api.ErrThere)
			got := objects(t, s)
			if got[x.name] != other || got["w/"+x.name[2:]] != x.b || len(names(t, s, "t/")) > 0 {
				t.Errorf("%s: %v", x.what, names(t, s, ""))
			}
			if a, b := v.Twins(); string(a) != x.b || string(b) != other {
				t.Errorf("%s: Twins: %d, %d bytes", x.what, len(a), len(b))
			}
		}
	}
}

// P16.1: an object that has these bytes is no error, and there is no twin.
func TestSameObject(t *testing.T) {
	for _, x := range twins(t) {
		s := newShelf(t, room)
		v := open(t, s, "t", 800000)
		forge(t, s, x.name, x.b)
		checkErrno(t, x.what, x.do(v), api.OK)
		got := objects(t, s)
		if got[x.name] != x.b || len(names(t, s, "t/"))+len(names(t, s, "w/")) > 0 {
			t.Errorf("%s: %v", x.what, names(t, s, ""))
		}
		if a, b := v.Twins(); a != nil || b != nil {
			t.Errorf("%s: Twins: %d, %d bytes", x.what, len(a), len(b))
		}
	}
}

// P16.1: a twin that is there already, or for which there is no room: ErrThere; the power's end as it is laid: ErrDown.
func TestTwinsThatCantBe(t *testing.T) {
	for _, x := range twins(t) {
		s := newShelf(t, room)
		v := open(t, s, "t", 800000)
		forge(t, s, x.name, "other")
		forge(t, s, "w/"+x.name[2:], "elder twin")
		checkErrno(t, x.what, x.do(v), api.ErrThere)
		if a, b := v.Twins(); string(a) != "elder twin" || string(b) != "other" {
			t.Errorf("%s: Twins: %q, %q", x.what, a, b)
		}

		down := 0
		for n := range 12 {
			s = newShelf(t, room)
			v = open(t, s, "t", 800000)
			forge(t, s, x.name, "other")
			s.Arm(n)
			e := x.do(v)
			if s.Off() != (e == api.ErrDown) || e != api.ErrDown && e != api.ErrThere {
				t.Error(x.what, n, e)
			}
			if e == api.ErrDown {
				down++
				if a, b := v.Twins(); a != nil || b != nil {
					t.Error("Twins without power")
				}
			}
		}
		if down < 6 { // Put, Sync, Delete, and the twin's Put, Sync, Rename
			t.Error(x.what, down)
		}
	}
	p, b := packOf(t, pen("t"), lumps(40, 3)...)
	s := newShelf(t, len(b)+5)
	v := open(t, s, "t", 800000)
	forge(t, s, p.Name, "other")
	for _, x := range lumps(40, 3) {
		put(t, v, x, true)
	}
	forge(t, s, "fill", "0123456789")
	checkErrno(t, "no room", v.Flush(), api.ErrFull)
}

// P16.1: Twins: the first w/, with the pack of what stands behind that, or else the index.
func TestTwinsWords(t *testing.T) {
	s := newShelf(t, room)
	v := open(t, s, "t", 1)
	check := func(what, a, b string) {
		t.Helper()
		if x, y := v.Twins(); string(x) != a || string(y) != b {
			t.Errorf("%s: %q, %q", what, x, y)
		}
	}
	check("nothing", "", "")
	forge(t, s, "p/b", "a pack")
	forge(t, s, "x/c", "an index")
	forge(t, s, "w", "w")
	forge(t, s, "wb", "wb")
	check("no twin", "", "")
	forge(t, s, "w/c", "2")
	check("an index", "2", "an index")
	forge(t, s, "w/b", "1")
	check("the first", "1", "a pack")
	forge(t, s, "x/b", "too")
	check("a pack ahead of an index", "1", "a pack")
	forge(t, s, "w/a", "alone")
	check("alone", "", "")
}
