package shelf_test

import (
	"bytes"
	"maps"
	"math"
	"reflect"
	"slices"
	"strconv"
	"strings"
	"testing"

	"hypogeum/api"
	"hypogeum/shelf"
)

const mostRoom = 1 << 30

func made(t *testing.T, room int) *shelf.Shelf {
	t.Helper()
	s, e := shelf.New(room)
	if s == nil || e != api.OK {
		t.Fatal("New", room, s, e)
	}
	return s
}

func want(t *testing.T, what string, got, e api.Errno) {
	t.Helper()
	if got != e {
		t.Errorf("%s: %d, not %d", what, got, e)
	}
}

func put(t *testing.T, s *shelf.Shelf, name, b string) {
	t.Helper()
	want(t, "Put "+name, s.Put(name, []byte(b)), api.OK)
}

func checkGet(t *testing.T, s *shelf.Shelf, name, b string) {
	t.Helper()
	if got, e := s.Get(name); string(got) != b || e != api.OK {
		t.Errorf("Get(%q) = %q, %d, not %q", name, got, e, b)
	}
}

// checkNone: rule 2: there are no bytes beside an error.
func checkNone(t *testing.T, s *shelf.Shelf, name string, want api.Errno) {
	t.Helper()
	if got, e := s.Get(name); len(got) != 0 || e != want {
		t.Errorf("Get(%q) = %q, %d, not %d", name, got, e, want)
	}
}

func checkList(t *testing.T, s *shelf.Shelf, prefix string, want ...string) {
	t.Helper()
	if got, e := s.List(prefix); !slices.Equal(got, want) || e != api.OK {
		t.Errorf("List(%q) = %q, %d, not %q", prefix, got, e, want)
	}
}

// state: all that is to be seen of a store.
type state struct {
	objects     map[string]string
	synced      []string
	used, steps int
	off         bool
}

// look: what isn't to be seen of a store without changing it is seen by another one that becomes like it.
func look(t *testing.T, s *shelf.Shelf) state {
	t.Helper()
	x := state{objects: map[string]string{}, used: s.Used(), steps: s.Steps(), off: s.Off()}
	like := made(t, mostRoom)
	if e := like.Restore(s.Photo()); e != api.OK {
		t.Fatal(e)
	}
	names, _ := like.List("")
	for _, name := range names {
		b, _ := like.Get(name)
		x.objects[name] = string(b)
	}
	like.Crash()
	x.synced, _ = like.List("")
	return x
}

// refused: the call answers that error, and changes nothing.
func refused(t *testing.T, s *shelf.Shelf, what string, e api.Errno, call func() api.Errno) {
	t.Helper()
	was := look(t, s)
	want(t, what, call(), e)
	if now := look(t, s); !reflect.DeepEqual(now, was) {
		t.Errorf("%s is refused, and changes %v to %v", what, was, now)
	}
}

// changes: one of each kind of change, each of which would answer OK in a store that some made.
func changes(s *shelf.Shelf) map[string]func() api.Errno {
	return map[string]func() api.Errno{
		"Put":     func() api.Errno { return s.Put("new", []byte("n")) },
		"Sync":    func() api.Errno { return s.Sync("draft") },
		"Sync of": func() api.Errno { return s.Sync() },
		"Rename":  func() api.Errno { return s.Rename("draft", "other") },
		"same":    func() api.Errno { return s.Rename("draft", "draft") },
		"Delete":  func() api.Errno { return s.Delete("draft") },
		"Nudge":   func() api.Errno { return s.Nudge() },
	}
}

// some: a store with an object that is synced, and one that isn't, and room for 100 bytes.
func some(t *testing.T) *shelf.Shelf {
	t.Helper()
	s := made(t, 100)
	put(t, s, "whole", "synced bytes")
	want(t, "Sync", s.Sync("whole"), api.OK)
	put(t, s, "draft", "others")
	return s
}

// P8.1: the document's examples.
func TestExamples(t *testing.T) {
	s := made(t, 1000)
	put(t, s, "a", "xyz")
	s.Crash(3)
	checkGet(t, s, "a", "xy")
	put(t, s, "b", "q")
	s.Crash()
	checkNone(t, s, "b", api.ErrMiss)
	want(t, "Put", s.Put("a", []byte("n")), api.ErrThere)
	want(t, "Forge", s.Forge("a", []byte("n")), api.OK)
	checkGet(t, s, "a", "n")
}

// P8.1: New, and rule 2.
func TestNew(t *testing.T) {
	for _, room := range []int{0, 1, 1000, mostRoom - 1, mostRoom} {
		s := made(t, room)
		checkList(t, s, "")
		if s.Used() != 0 || s.Steps() != 0 || s.Off() {
			t.Error(room, s.Used(), s.Steps(), s.Off())
		}
	}
	for _, room := range []int{-1, math.MinInt, mostRoom + 1, math.MaxInt} {
		if s, e := shelf.New(room); s != nil || e != api.ErrArg {
			t.Error(room, s, e)
		}
	}
}

// names: those that may be, and those that mayn't.
func names() ([]string, []string) {
	yes := []string{"a", "z", "0", "9", "-", "/", "p/0", "l/07-12", "config", "//", "--", strings.Repeat("a", 63), strings.Repeat("/", 64)}
	no := []string{"", "A", "a ", " a", "a.b", "a_b", "a\x00", "\xff", "é", "aé", "a\n", strings.Repeat("a", 65), strings.Repeat("a", 100000), strings.Repeat("a", 63) + "A"}
	return yes, no
}

// P8.1: IsName, and the calls that need a name.
func TestNames(t *testing.T) {
	yes, no := names()
	for _, name := range yes {
		s := some(t)
		if !shelf.IsName(name) {
			t.Errorf("%q is a name", name)
		}
		want(t, "Put", s.Put(name), api.OK)
		want(t, "Forge", s.Forge(name, nil), api.OK)
		want(t, "Delete", s.Delete(name), api.OK)
		want(t, "Forge", s.Forge(name, nil), api.OK)
		want(t, "Steal", s.Steal(name), api.OK)
		want(t, "Rename", s.Rename("draft", name), api.OK)
		checkGet(t, s, name, "others")
	}
	for _, name := range no {
		s := some(t)
		if shelf.IsName(name) {
			t.Errorf("%q is no name", name)
		}
		refused(t, s, "Put", api.ErrName, func() api.Errno { return s.Put(name, make([]byte, api.MaxPack+1)) })
		refused(t, s, "Forge", api.ErrName, func() api.Errno { return s.Forge(name, make([]byte, api.MaxPack+1)) })
		refused(t, s, "Rename", api.ErrName, func() api.Errno { return s.Rename("draft", name) })
		refused(t, s, "Rename of none", api.ErrName, func() api.Errno { return s.Rename("none", name) })
		// These calls don't ask for a name's form: there just is no such object.
		refused(t, s, "Rename from", api.ErrMiss, func() api.Errno { return s.Rename(name, "b") })
		refused(t, s, "Delete", api.ErrMiss, func() api.Errno { return s.Delete(name) })
		refused(t, s, "Steal", api.ErrMiss, func() api.Errno { return s.Steal(name) })
		checkNone(t, s, name, api.ErrMiss)
	}
}

// P8.1: each byte, wherever in a name.
func TestNamesOfAllBytes(t *testing.T) {
	for x := range 256 {
		b := string([]byte{byte(x)})
		ok := strings.Contains("abcdefghijklmnopqrstuvwxyz0123456789-/", b)
		for _, s := range []string{b, b + "ab", "a" + b + "b", "ab" + b} {
			if shelf.IsName(s) != ok {
				t.Errorf("IsName(%q) isn't %v", s, ok)
			}
		}
	}
}

// P8.1: an object has all parts' bytes, in their order.
func TestPut(t *testing.T) {
	s := made(t, 100)
	want(t, "Put", s.Put("none"), api.OK)
	want(t, "Put", s.Put("noughts", nil, []byte{}, nil), api.OK)
	want(t, "Put", s.Put("parts", []byte("a\x00"), nil, []byte("bc"), []byte("\xff")), api.OK)
	checkGet(t, s, "none", "")
	checkGet(t, s, "noughts", "")
	checkGet(t, s, "parts", "a\x00bc\xff")
	checkList(t, s, "", "none", "noughts", "parts")
	if x := look(t, s); len(x.synced) != 0 || x.used != 5 || x.steps != 3 {
		t.Error(x)
	}
	for _, name := range []string{"none", "parts"} {
		refused(t, s, "Put", api.ErrThere, func() api.Errno { return s.Put(name) })
		refused(t, s, "Put", api.ErrThere, func() api.Errno { return s.Put(name, make([]byte, api.MaxPack+1)) })
	}
}

// P8.1: an object has 2^20 bytes at most, all parts together; that comes ahead of the room.
func TestPutBig(t *testing.T) {
	half := make([]byte, api.MaxPack/2)
	s := made(t, 3*api.MaxPack)
	want(t, "Put", s.Put("one", make([]byte, api.MaxPack)), api.OK)
	want(t, "Put", s.Put("two", half, half), api.OK)
	refused(t, s, "Put", api.ErrBig, func() api.Errno { return s.Put("b", make([]byte, api.MaxPack+1)) })
	refused(t, s, "Put", api.ErrBig, func() api.Errno { return s.Put("b", half, half, []byte{1}) })
	refused(t, s, "Put", api.ErrBig, func() api.Errno { return s.Put("b", half, half, half, half) })
	s = made(t, 10)
	refused(t, s, "Put", api.ErrBig, func() api.Errno { return s.Put("b", half, half, []byte{1}) })
	refused(t, s, "Put", api.ErrFull, func() api.Errno { return s.Put("b", half, half) })
}

// P8.1: room for so many bytes, and not one more.
func TestRoom(t *testing.T) {
	s := made(t, 10)
	put(t, s, "a", "1234567")
	refused(t, s, "Put", api.ErrFull, func() api.Errno { return s.Put("b", []byte("1234")) })
	refused(t, s, "Put", api.ErrFull, func() api.Errno { return s.Put("b", []byte("12"), []byte("34")) })
	put(t, s, "b", "123")
	put(t, s, "none", "")
	refused(t, s, "Put", api.ErrFull, func() api.Errno { return s.Put("c", []byte("1")) })
	want(t, "Delete", s.Delete("a"), api.OK)
	put(t, s, "c", "1234567")
	want(t, "Steal", s.Steal("c"), api.OK)
	put(t, s, "d", "1234567")
	s.Crash(2, 3, 4) // b, d, none: one byte, two bytes, and none
	checkGet(t, s, "b", "1")
	put(t, s, "e", "1234567")
	refused(t, s, "Put", api.ErrFull, func() api.Errno { return s.Put("f", []byte("1")) })
	s = made(t, 0)
	put(t, s, "none", "")
	refused(t, s, "Put", api.ErrFull, func() api.Errno { return s.Put("a", []byte("1")) })
}

// P8.1: where there are more bytes than there is room for, an object of no bytes has none either.
func TestRoomIsNoMatterToOthers(t *testing.T) {
	s := made(t, 10)
	want(t, "Forge", s.Forge("a", make([]byte, 10)), api.OK)
	put(t, s, "none", "")
	want(t, "Forge", s.Forge("a", make([]byte, 11)), api.OK)
	if s.Used() != 11 {
		t.Error(s.Used())
	}
	refused(t, s, "Put", api.ErrFull, func() api.Errno { return s.Put("b") })
	refused(t, s, "Put", api.ErrFull, func() api.Errno { return s.Put("b", nil, []byte{}) })
	want(t, "Rename", s.Rename("a", "c"), api.OK)
	want(t, "Sync", s.Sync("none"), api.OK)
	want(t, "Steal", s.Steal("c"), api.OK)
	put(t, s, "b", "")
}

// P8.1: a store has 2000 objects at most; Put tells that by ErrFull, Forge by ErrBig.
func TestManyObjects(t *testing.T) {
	s := made(t, 100)
	var names []string
	for i := range api.MaxStore {
		name := "o/" + strconv.Itoa(100000+i)
		names = append(names, name)
		if e := s.Put(name); e != api.OK {
			t.Fatal(i, e)
		}
	}
	checkList(t, s, "o/", names...)
	refused(t, s, "Put", api.ErrFull, func() api.Errno { return s.Put("more") })
	refused(t, s, "Put", api.ErrThere, func() api.Errno { return s.Put(names[0]) })
	refused(t, s, "Forge", api.ErrBig, func() api.Errno { return s.Forge("more", nil) })
	want(t, "Forge", s.Forge(names[7], []byte("other")), api.OK)
	want(t, "Rename", s.Rename(names[8], "more"), api.OK)
	want(t, "Delete", s.Delete("more"), api.OK)
	want(t, "Forge", s.Forge("forged", nil), api.OK)
	refused(t, s, "Put", api.ErrFull, func() api.Errno { return s.Put("more") })
	want(t, "Steal", s.Steal("forged"), api.OK)
	put(t, s, "more", "")
}

// P8.1: Sync, each in its turn.
func TestSync(t *testing.T) {
	s := made(t, 100)
	for _, name := range []string{"a", "b", "c", "d"} {
		put(t, s, name, "bytes of "+name)
	}
	want(t, "Sync", s.Sync(), api.OK)
	want(t, "Sync", s.Sync("b", "b"), api.OK)
	if x := look(t, s); !slices.Equal(x.synced, []string{"b"}) || x.steps != 6 {
		t.Error(x)
	}
	want(t, "Sync", s.Sync("c", "none", "d"), api.ErrMiss)
	want(t, "Sync", s.Sync("NONE", "d"), api.ErrMiss)
	if x := look(t, s); !slices.Equal(x.synced, []string{"b", "c"}) || x.steps != 8 {
		t.Error(x)
	}
	want(t, "Sync", s.Sync("d", "c", "a"), api.OK)
	if x := look(t, s); !slices.Equal(x.synced, []string{"a", "b", "c", "d"}) || x.steps != 9 {
		t.Error(x)
	}
	s.Crash()
	checkGet(t, s, "d", "bytes of d")
}

// P8.1: Rename: the bytes, and whether they are synced, go along.
func TestRename(t *testing.T) {
	s := some(t)
	want(t, "Rename", s.Rename("whole", "a"), api.OK)
	want(t, "Rename", s.Rename("draft", "whole"), api.OK)
	x := look(t, s)
	if !maps.Equal(x.objects, map[string]string{"a": "synced bytes", "whole": "others"}) || !slices.Equal(x.synced, []string{"a"}) || x.steps != 5 {
		t.Error(x)
	}
	want(t, "Rename", s.Rename("a", "a"), api.OK)
	want(t, "Rename", s.Rename("whole", "whole"), api.OK)
	x.steps = 7
	if now := look(t, s); !reflect.DeepEqual(now, x) {
		t.Error(now)
	}
	refused(t, s, "Rename", api.ErrThere, func() api.Errno { return s.Rename("a", "whole") })
	refused(t, s, "Rename", api.ErrThere, func() api.Errno { return s.Rename("whole", "a") })
	refused(t, s, "Rename", api.ErrMiss, func() api.Errno { return s.Rename("none", "b") })
	refused(t, s, "Rename", api.ErrMiss, func() api.Errno { return s.Rename("none", "a") })
	refused(t, s, "Rename", api.ErrMiss, func() api.Errno { return s.Rename("none", "none") })
}

// P8.1: Delete, Nudge.
func TestDeleteAndNudge(t *testing.T) {
	s := some(t)
	want(t, "Nudge", s.Nudge(), api.OK)
	if x := look(t, s); x.steps != 4 || len(x.objects) != 2 || len(x.synced) != 1 {
		t.Error(x)
	}
	refused(t, s, "Delete", api.ErrMiss, func() api.Errno { return s.Delete("none") })
	want(t, "Delete", s.Delete("whole"), api.OK)
	refused(t, s, "Delete", api.ErrMiss, func() api.Errno { return s.Delete("whole") })
	checkList(t, s, "", "draft")
	put(t, s, "whole", "anew")
	s.Crash(0, 3) // draft, and whole, which isn't synced any longer
	checkList(t, s, "", "whole")
	checkGet(t, s, "whole", "an")
}

// P8.1: List: the names that begin so, rising byte by byte.
func TestList(t *testing.T) {
	s := made(t, 100)
	for _, name := range []string{"b", "a/b", "a", "a-", "a/", "ab", "a0", "p/2", "p/10", "-", "/"} {
		put(t, s, name, "")
	}
	checkList(t, s, "", "-", "/", "a", "a-", "a/", "a/b", "a0", "ab", "b", "p/10", "p/2")
	checkList(t, s, "a", "a", "a-", "a/", "a/b", "a0", "ab")
	checkList(t, s, "a/", "a/", "a/b")
	checkList(t, s, "p/", "p/10", "p/2")
	checkList(t, s, "b", "b")
	checkList(t, s, "bb")
	checkList(t, s, "A")
	checkList(t, s, "\x00")
	checkList(t, s, strings.Repeat("a", 1000))
}

// P8.1: Used: all objects' bytes, synced or not; Steps: just the changes that answered OK.
func TestUsedAndSteps(t *testing.T) {
	s := made(t, 1000)
	check := func(used, steps int) {
		t.Helper()
		if s.Used() != used || s.Steps() != steps {
			t.Error(s.Used(), s.Steps(), "not", used, steps)
		}
	}
	put(t, s, "a", "12345")
	put(t, s, "b", "123")
	check(8, 2)
	s.Sync("a")
	s.Rename("a", "c")
	check(8, 4)
	s.Delete("none")
	s.Put("c")
	s.Rename("c", "b")
	s.Get("c")
	s.List("")
	check(8, 4)
	s.Forge("c", []byte("1"))
	s.Forge("d", []byte("12"))
	check(6, 4)
	i := s.Photo()
	s.Delete("c")
	s.Steal("d")
	check(3, 5)
	s.Restore(i)
	check(6, 5)
	s.Crash(2) // b
	check(4, 5)
	s.Arm(0)
	s.Nudge()
	check(4, 5)
}

// P8.1: so many changes more answer OK, of whichever kinds; the one behind them puts the power off, and changes nothing.
func TestArm(t *testing.T) {
	for _, n := range []int{math.MinInt, -1, 0, 1, 2, 5} {
		for what := range changes(nil) {
			s := some(t)
			s.Arm(n)
			for range n {
				want(t, "Nudge", s.Nudge(), api.OK)
			}
			was := look(t, s)
			if was.off || was.steps != 3+max(n, 0) {
				t.Error(n, what, was)
			}
			want(t, what, changes(s)[what](), api.ErrDown)
			was.off = true
			if now := look(t, s); !reflect.DeepEqual(now, was) {
				t.Error(n, what, "changes", was, "to", now)
			}
		}
	}
}

// P8.1: each kind of change counts.
func TestArmCounts(t *testing.T) {
	for what := range changes(nil) {
		s := some(t)
		s.Arm(1)
		want(t, what, changes(s)[what](), api.OK)
		if s.Off() {
			t.Error(what)
		}
		want(t, "Nudge", s.Nudge(), api.ErrDown)
		if !s.Off() {
			t.Error(what)
		}
	}
}

// P8.1: a Sync that tells ErrMiss counts, and puts the power off, as one that answers OK.
func TestArmAndSync(t *testing.T) {
	s := some(t)
	s.Arm(1)
	want(t, "Sync", s.Sync("draft", "none"), api.ErrMiss)
	if x := look(t, s); x.off || x.steps != 4 || len(x.synced) != 2 {
		t.Error(x)
	}
	want(t, "Nudge", s.Nudge(), api.ErrDown)
}

// P8.1: with no change left such a Sync answers ErrDown, and syncs nothing.
func TestDownBySync(t *testing.T) {
	s := some(t)
	s.Arm(0)
	want(t, "Sync", s.Sync("draft", "none"), api.ErrDown)
	if x := look(t, s); !x.off || x.steps != 3 || len(x.synced) != 1 {
		t.Error(x)
	}
	s = some(t)
	s.Arm(0)
	want(t, "Sync", s.Sync("none"), api.ErrDown)
	if !s.Off() {
		t.Error("there is power")
	}
}

// P8.1: a change that is refused for another reason isn't counted, and doesn't put the power off.
func TestArmAndRefusals(t *testing.T) {
	for n := range 3 {
		s := some(t)
		s.Arm(n)
		refusals := map[string]api.Errno{
			"name": s.Put("NAME"), "there": s.Put("draft"), "big": s.Put("a", make([]byte, api.MaxPack+1)), "full": s.Put("a", make([]byte, 99)),
			"to": s.Rename("draft", ""), "miss": s.Rename("none", "a"), "both": s.Rename("draft", "whole"), "none": s.Delete("none"),
		}
		wanted := map[string]api.Errno{
			"name": api.ErrName, "there": api.ErrThere, "big": api.ErrBig, "full": api.ErrFull,
			"to": api.ErrName, "miss": api.ErrMiss, "both": api.ErrThere, "none": api.ErrMiss,
		}
		if !maps.Equal(refusals, wanted) || s.Off() {
			t.Error(refusals, s.Off())
		}
		s.Get("draft")
		s.List("")
		s.Forge("forged", nil)
		s.Steal("forged")
		s.Restore(s.Photo())
		for range n {
			want(t, "Nudge", s.Nudge(), api.OK)
		}
		want(t, "Nudge", s.Nudge(), api.ErrDown)
	}
}

// P8.1: Arm again: the new count counts.
func TestArmAgain(t *testing.T) {
	s := some(t)
	s.Arm(5)
	s.Arm(1)
	want(t, "Nudge", s.Nudge(), api.OK)
	s.Arm(2)
	want(t, "Nudge", s.Nudge(), api.OK)
	want(t, "Nudge", s.Nudge(), api.OK)
	want(t, "Nudge", s.Nudge(), api.ErrDown)
	s.Arm(3)
	want(t, "Nudge", s.Nudge(), api.ErrDown)
	if !s.Off() {
		t.Error("Arm puts the power on")
	}
}

// down: a store like some's whose power is off.
func down(t *testing.T) *shelf.Shelf {
	t.Helper()
	s := some(t)
	s.Arm(0)
	want(t, "Nudge", s.Nudge(), api.ErrDown)
	return s
}

// P8.1: without power all changes, Get and List answer ErrDown, ahead of all other errors.
func TestDown(t *testing.T) {
	s := down(t)
	for range 2 {
		for what, call := range changes(s) {
			refused(t, s, what, api.ErrDown, call)
		}
		refused(t, s, "Put", api.ErrDown, func() api.Errno { return s.Put("") })
		refused(t, s, "Put", api.ErrDown, func() api.Errno { return s.Put("draft") })
		refused(t, s, "Put", api.ErrDown, func() api.Errno { return s.Put("a", make([]byte, api.MaxPack+1)) })
		refused(t, s, "Put", api.ErrDown, func() api.Errno { return s.Put("a", make([]byte, 99)) })
		refused(t, s, "Sync", api.ErrDown, func() api.Errno { return s.Sync("none") })
		refused(t, s, "Rename", api.ErrDown, func() api.Errno { return s.Rename("", "") })
		refused(t, s, "Rename", api.ErrDown, func() api.Errno { return s.Rename("draft", "whole") })
		refused(t, s, "Delete", api.ErrDown, func() api.Errno { return s.Delete("none") })
		for _, name := range []string{"whole", "draft", "none", ""} {
			checkNone(t, s, name, api.ErrDown)
			if l, e := s.List(name); len(l) != 0 || e != api.ErrDown {
				t.Error(l, e)
			}
		}
	}
	if s.Used() != 18 || s.Steps() != 3 {
		t.Error(s.Used(), s.Steps())
	}
}

// P8.1: somebody else has a hand in it without power, too; he doesn't bring it back.
func TestOthersWithoutPower(t *testing.T) {
	s := down(t)
	i := s.Photo()
	want(t, "Forge", s.Forge("draft", []byte("forged")), api.OK)
	want(t, "Forge", s.Forge("a", []byte("forged")), api.OK)
	want(t, "Steal", s.Steal("whole"), api.OK)
	refused(t, s, "Forge", api.ErrName, func() api.Errno { return s.Forge("", nil) })
	refused(t, s, "Steal", api.ErrMiss, func() api.Errno { return s.Steal("none") })
	x := look(t, s)
	if !maps.Equal(x.objects, map[string]string{"a": "forged", "draft": "forged"}) || len(x.synced) != 2 || !x.off || x.steps != 3 {
		t.Error(x)
	}
	want(t, "Restore", s.Restore(i), api.OK)
	x = look(t, s)
	if len(x.objects) != 2 || !slices.Equal(x.synced, []string{"whole"}) || !x.off || x.steps != 3 {
		t.Error(x)
	}
}

// P8.1: behind a crash the power is on, all is synced, and Arm is forgotten.
func TestCrash(t *testing.T) {
	for _, s := range []*shelf.Shelf{some(t), down(t)} {
		s.Crash(3)
		if x := look(t, s); x.objects["draft"] != "ot" || !slices.Equal(x.synced, []string{"draft", "whole"}) || x.off || x.steps != 3 {
			t.Error(x)
		}
		for range 3 {
			want(t, "Nudge", s.Nudge(), api.OK)
		}
	}
	s := some(t)
	s.Arm(2)
	s.Crash()
	for range 5 {
		want(t, "Nudge", s.Nudge(), api.OK)
	}
	s = some(t)
	s.Arm(1)
	s.Crash()
	s.Arm(1)
	want(t, "Nudge", s.Nudge(), api.OK)
	want(t, "Nudge", s.Nudge(), api.ErrDown)
}

// P8.1: a pick's rest modulo the count of bytes and 2 says what stays.
func TestPicks(t *testing.T) {
	b := "12345"
	for n := range len(b) + 1 {
		m := n + 2
		for p := range m {
			// 2^64 as a number without a sign is 0 again: the greatest of these is 2^64 - 1.
			below := -1 - int((math.MaxUint64-uint64(p))%uint64(m))
			for _, pick := range []int{p, p + m, p + 1000*m, math.MaxInt - (math.MaxInt-p)%m, below, below - m} {
				s := made(t, 100)
				put(t, s, "a", b[:n])
				s.Crash(pick)
				if p == 0 {
					checkNone(t, s, "a", api.ErrMiss)
				} else {
					checkGet(t, s, "a", b[:p-1])
				}
			}
		}
	}
}

// P8.1: the same of a pick below 0, by numbers that are worked out by hand.
func TestPicksBelowNought(t *testing.T) {
	for _, x := range []struct {
		bytes string
		pick  int
		left  string
		ok    bool
	}{
		{"1", -1, "", false},           // 2^64 - 1 is 0 modulo 3
		{"123", -1, "", false},         // and modulo 5
		{"", -1, "", true},             // and 1 modulo 2
		{"12345678", -1, "1234", true}, // and 5 modulo 10
		{"12", -2, "1", true},          // 2^64 - 2 is 2 modulo 4
		{"12", math.MinInt, "", false}, // 2^63 is 0 modulo 4
		{"1", math.MinInt, "1", true},  // and 2 modulo 3
	} {
		s := made(t, 100)
		put(t, s, "a", x.bytes)
		s.Crash(x.pick)
		if b, e := s.Get("a"); string(b) != x.left || (e == api.OK) != x.ok {
			t.Errorf("%q, %d: %q, %d", x.bytes, x.pick, b, e)
		}
	}
}

// P8.1: picks are used up by the names that aren't synced, rising; those that are use none up.
func TestPicksInTurn(t *testing.T) {
	s := made(t, 1000)
	for _, name := range []string{"e", "c", "a", "d", "b", "f", "ab"} {
		put(t, s, name, name+name+name+name)
	}
	s.Sync("b", "e")
	s.Crash(5, 2, 0, 3) // a, ab, c, d; none for f
	x := look(t, s)
	if !maps.Equal(x.objects, map[string]string{"a": "aaaa", "ab": "a", "b": "bbbb", "d": "dd", "e": "eeee"}) {
		t.Error(x)
	}
	s.Crash(1, 1, 1, 1, 1, 1)
	if now := look(t, s); !reflect.DeepEqual(now, x) {
		t.Error("a second crash changes what stayed:", now)
	}
}

// P8.1: Forge: what is made or changed so is synced.
func TestForge(t *testing.T) {
	s := some(t)
	want(t, "Forge", s.Forge("draft", nil), api.OK)
	want(t, "Forge", s.Forge("whole", []byte("w")), api.OK)
	want(t, "Forge", s.Forge("a", []byte("a\x00")), api.OK)
	want(t, "Forge", s.Forge("b", make([]byte, api.MaxPack)), api.OK)
	refused(t, s, "Forge", api.ErrBig, func() api.Errno { return s.Forge("c", make([]byte, api.MaxPack+1)) })
	refused(t, s, "Forge", api.ErrBig, func() api.Errno { return s.Forge("a", make([]byte, api.MaxPack+1)) })
	x := look(t, s)
	if !maps.Equal(x.objects, map[string]string{"draft": "", "whole": "w", "a": "a\x00", "b": string(make([]byte, api.MaxPack))}) || len(x.synced) != 4 {
		t.Error(len(x.objects), x.synced)
	}
}

// P8.1: Steal.
func TestSteal(t *testing.T) {
	s := some(t)
	refused(t, s, "Steal", api.ErrMiss, func() api.Errno { return s.Steal("none") })
	want(t, "Steal", s.Steal("draft"), api.OK)
	want(t, "Steal", s.Steal("whole"), api.OK)
	refused(t, s, "Steal", api.ErrMiss, func() api.Errno { return s.Steal("whole") })
	checkList(t, s, "")
}

// P8.1: Restore: all objects are as they were, synced or not; an image never changes, and serves other stores, too.
func TestRestore(t *testing.T) {
	s := some(t)
	was := look(t, s)
	i := s.Photo()
	for n := range 3 {
		s.Forge("whole", []byte("forged"))
		s.Delete("draft")
		put(t, s, "a", "new")
		s.Crash(1)
		want(t, "Restore", s.Restore(i), api.OK)
		now := look(t, s)
		now.steps -= 2 * (n + 1)
		if !reflect.DeepEqual(now, was) {
			t.Error(now)
		}
	}
	refused(t, s, "Restore", api.ErrArg, func() api.Errno { return s.Restore(nil) })
	other := made(t, 3)
	put(t, other, "b", "b")
	want(t, "Restore", other.Restore(i), api.OK)
	if now := look(t, other); !maps.Equal(now.objects, was.objects) || !slices.Equal(now.synced, was.synced) || now.used != 18 || now.steps != 1 {
		t.Error(now)
	}
	refused(t, other, "Put", api.ErrFull, func() api.Errno { return other.Put("c") })
	other.Crash()
	other.Steal("whole")
	s.Crash(4)
	checkGet(t, s, "draft", "oth")
	want(t, "Restore", s.Restore(i), api.OK)
	checkGet(t, s, "draft", "others")
	none := made(t, 0).Photo()
	want(t, "Restore", s.Restore(none), api.OK)
	checkList(t, s, "")
	put(t, s, "a", "1")
	want(t, "Restore", s.Restore(none), api.OK)
	checkList(t, s, "")
}

// P8.1: Restore doesn't meddle with the power.
func TestRestoreAndArm(t *testing.T) {
	s := some(t)
	i := s.Photo()
	s.Arm(1)
	j := s.Photo()
	want(t, "Restore", s.Restore(i), api.OK)
	want(t, "Nudge", s.Nudge(), api.OK)
	want(t, "Restore", s.Restore(j), api.OK)
	want(t, "Nudge", s.Nudge(), api.ErrDown)
	want(t, "Restore", s.Restore(i), api.OK)
	if !s.Off() {
		t.Error("there is power")
	}
}

// P1, P8.1: a nil store, and one that New didn't make.
func TestNoStore(t *testing.T) {
	var s *shelf.Shelf
	for what, call := range changes(s) {
		want(t, what, call(), api.ErrArg)
	}
	want(t, "Put", s.Put(""), api.ErrArg)
	want(t, "Sync", s.Sync("none"), api.ErrArg)
	want(t, "Rename", s.Rename("", ""), api.ErrArg)
	want(t, "Forge", s.Forge("a", nil), api.ErrArg)
	want(t, "Forge", s.Forge("", nil), api.ErrArg)
	want(t, "Steal", s.Steal("a"), api.ErrArg)
	want(t, "Restore", s.Restore(nil), api.ErrArg)
	want(t, "Restore", s.Restore(made(t, 1).Photo()), api.ErrArg)
	checkNone(t, s, "a", api.ErrArg)
	if l, e := s.List(""); len(l) != 0 || e != api.ErrArg {
		t.Error(l, e)
	}
	s.Arm(3)
	s.Crash(1, 2)
	if s.Used() != 0 || s.Steps() != 0 || s.Off() || s.Photo() != nil {
		t.Error(s.Used(), s.Steps(), s.Off(), s.Photo())
	}
	bare := new(shelf.Shelf)
	for _, call := range changes(bare) {
		call()
	}
	bare.Forge("a", []byte("a"))
	bare.Restore(new(shelf.Image))
	bare.Crash(1)
	bare.Forge("b", []byte("b"))
	checkGet(t, bare, "b", "b")
}

// P8.4: bytes, lists and names that are handed in stay as they are, their spare room too.
func TestNothingIsChanged(t *testing.T) {
	s := made(t, 1000)
	room := []byte("bytes and room")
	parts := [][]byte{room[:5], room[:3], []byte("spare"), []byte("spare")}
	names := []string{"a", "b", "spare", "spare"}
	picks := []int{3, 4, 77, 77}
	want(t, "Put", s.Put("b", parts[:2]...), api.OK)
	want(t, "Put", s.Put("a", parts[1:2]...), api.OK)
	want(t, "Forge", s.Forge("f", room[:5]), api.OK)
	want(t, "Sync", s.Sync(names[:2]...), api.OK)
	put(t, s, "c", "12345")
	s.Crash(picks[:2]...)
	if string(room) != "bytes and room" || !slices.Equal(names, []string{"a", "b", "spare", "spare"}) || !slices.Equal(picks, []int{3, 4, 77, 77}) {
		t.Error(string(room), names, picks)
	}
	for i, b := range []string{"bytes", "byt", "spare", "spare"} {
		if string(parts[i]) != b {
			t.Error(i, string(parts[i]))
		}
	}
}

// P8.4: what is done to bytes and lists behind the call is nothing to the store.
func TestNothingIsKept(t *testing.T) {
	s := made(t, 1000)
	b := []byte("some bytes")
	parts := [][]byte{b}
	want(t, "Put", s.Put("one", parts...), api.OK)
	want(t, "Put", s.Put("two", b[:4], b[4:]), api.OK)
	want(t, "Forge", s.Forge("three", b), api.OK)
	i := s.Photo()
	parts[0] = []byte("other")
	clear(b)
	for _, name := range []string{"one", "two", "three"} {
		checkGet(t, s, name, "some bytes")
	}
	want(t, "Restore", s.Restore(i), api.OK)
	checkGet(t, s, "one", "some bytes")
}

// P8.4: answers are new memory, their spare room too.
func TestAnswersAreNew(t *testing.T) {
	s := some(t)
	i := s.Photo()
	one, _ := s.Get("whole")
	two, _ := s.Get("whole")
	l, _ := s.List("")
	m, _ := s.List("")
	one, l = one[:cap(one)], l[:cap(l)]
	for i := range one {
		one[i] = 77
	}
	for i := range l {
		l[i] = "changed"
	}
	if string(two) != "synced bytes" || !slices.Equal(m, []string{"draft", "whole"}) {
		t.Error(string(two), m)
	}
	checkGet(t, s, "whole", "synced bytes")
	checkList(t, s, "", "draft", "whole")
	want(t, "Restore", s.Restore(i), api.OK)
	checkGet(t, s, "whole", "synced bytes")
	if !bytes.Equal(one, bytes.Repeat([]byte{77}, len(one))) {
		t.Error("an answer is changed")
	}
}
