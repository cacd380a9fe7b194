package log_test

import (
	"fmt"
	"maps"
	"math"
	"slices"
	"strings"
	"testing"

	"hypogeum/api"
	"hypogeum/cell"
	"hypogeum/key"
	"hypogeum/log"
	"hypogeum/shelf"
	"hypogeum/vault"
)

const mostTime = 1 << 40

// P18.1: the document's example.
func TestExample(t *testing.T) {
	p := newPlace(t, room)
	l := p.open("t")
	add(t, l, made(1), 1)
	add(t, l, made(2), 2)
	whole := p.store.Photo()
	add(t, l, forgot(1), 3)
	if got := l.Snaps(); len(got) != 1 || got[0].Seq != 2 || got[0].Root != made(2).Root {
		t.Error("Snaps", got)
	}
	checkAdd(t, "again", l, forgot(1), api.ErrMiss)
	p.store.Restore(whole)
	p.checkCorrupt("as it was ahead")
}

// P18.1: nothing was added yet.
func TestEmpty(t *testing.T) {
	p := newPlace(t, room)
	l := p.open("t")
	checkRecords(t, "empty", l)
	if p.store.Steps() != 0 {
		t.Error(p.store.Steps(), "changes")
	}
	if n, _ := p.cell.Read(); n != 0 {
		t.Error("cell", n)
	}
	checkErrno(t, "Mend", l.Mend(), api.OK)
	p.checkNames("empty")
}

// P18.1: each object has just the bytes that the document says, with the tape's nonces in their order; it takes Publish's changes and a Raise.
func TestBytes(t *testing.T) {
	long := strings.Repeat("é", 500)
	l := []log.Record{
		{Kind: log.Made},
		{Kind: log.Made, Snap: api.Snap{Seq: 77, Time: mostTime, Note: long, Root: api.Id(some(5, 32))}},
		{Kind: log.Forgot, Snap: api.Snap{Seq: 2, Time: mostTime}},
		{Kind: log.Made, Snap: api.Snap{Seq: -1, Time: 127, Note: strings.Repeat("\x00", 127)}},
		{Kind: log.Made, Snap: api.Snap{Seq: math.MinInt, Time: 128, Note: strings.Repeat("\xff", 128)}},
		{Kind: log.Forgot, Snap: api.Snap{Seq: 1}},
		{Kind: log.Made, Snap: api.Snap{Seq: math.MaxInt, Time: 1, Note: long[:1000-2], Root: api.Id{31: 1}}},
	}
	p := newPlace(t, room)
	x := p.open("t")
	for i, r := range l {
		add(t, x, r, i+1)
		p.checkObjects("Add", chained(t, "t", l[:i+1]...))
		if n, _ := p.cell.Read(); n != i+1 || p.store.Steps() != 4*(i+1) {
			t.Error("cell", n, "changes", p.store.Steps())
		}
		checkRecords(t, "Add", x, numbered(l[:i+1]...)...)
		p.checkOpened("Open", numbered(l[:i+1]...)...)
	}
	p.store.Crash()
	p.checkObjects("behind a crash", chained(t, "t", l...))
}

// P18.1: what others wrote by the document's words is read, and gone on from.
func TestRead(t *testing.T) {
	p := newPlace(t, room)
	l := history()
	for name, b := range chained(t, "theirs", l...) {
		p.lay(name, []byte(b))
	}
	p.raise(len(l))
	p.checkOpened("Open", numbered(l...)...)
	x := p.open("mine")
	add(t, x, made(9), 9)
	b, _ := p.store.Get(name(8))
	want := sealed(t, ring(1), recordKind, name(9), nonce("mine", 0), told(chainOf(b), numbered(append(l, made(9))...)[8]))
	if b, _ := p.store.Get(name(9)); !slices.Equal(b, want) {
		t.Errorf("%x, not %x", b, want)
	}
}

// P18.1: the eight digits of a name.
func TestNames(t *testing.T) {
	p := newPlace(t, room)
	l := p.open("t")
	for i := range 101 {
		add(t, l, made(i), i+1)
	}
	names := p.names("")
	for i, want := range map[int]string{0: "s/00000001", 8: "s/00000009", 9: "s/00000010", 98: "s/00000099", 99: "s/00000100", 100: "s/00000101"} {
		if names[i] != want {
			t.Error(names[i], "not", want)
		}
	}
}

// wrong: records that are none.
func wrong() []log.Record {
	l := []log.Record{}
	for _, kind := range []int{0, 3, -1, math.MaxInt, math.MinInt} {
		l = append(l, log.Record{Kind: kind, Snap: api.Snap{Seq: 1}})
	}
	for _, kind := range []int{log.Made, log.Forgot} {
		for _, time := range []int{-1, mostTime + 1, math.MaxInt, math.MinInt} {
			l = append(l, log.Record{Kind: kind, Snap: api.Snap{Seq: 1, Time: time}})
		}
	}
	return append(l,
		log.Record{Kind: log.Made, Snap: api.Snap{Note: strings.Repeat("n", 1001)}},
		log.Record{Kind: log.Made, Snap: api.Snap{Note: strings.Repeat("é", 501)}},
		log.Record{Kind: log.Forgot, Snap: api.Snap{Seq: 1, Note: "n"}},
		log.Record{Kind: log.Forgot, Snap: api.Snap{Seq: 1, Root: api.Id{1}}},
		log.Record{Kind: log.Forgot, Snap: api.Snap{Seq: 1, Root: api.Id{31: 1}}},
	)
}

// P18.1: ErrForm; nothing has changed, and no nonce is used up.
func TestAddForm(t *testing.T) {
	p := newPlace(t, room)
	l := p.open("t")
	add(t, l, made(1), 1)
	for _, r := range wrong() {
		checkAdd(t, fmt.Sprint(r), l, r, api.ErrForm)
		p.checkObjects("ErrForm", chained(t, "t", made(1)))
	}
	checkRecords(t, "ErrForm", l, numbered(made(1))...)
	addAll(t, l, forgot(1), made(3))
	p.checkObjects("behind them", chained(t, "t", made(1), forgot(1), made(3)))
}

// P18.1: ErrMiss: a Forgot of what is no snapshot, or not yet, or no longer.
func TestAddMiss(t *testing.T) {
	p := newPlace(t, room)
	l := p.open("t")
	for _, seq := range []int{0, 1, 2, -1, math.MinInt, math.MaxInt} {
		checkAdd(t, fmt.Sprint("empty, ", seq), l, forgot(seq), api.ErrMiss)
	}
	p.checkNames("empty")
	addAll(t, l, history()...)
	whole := p.objects()
	for _, l := range []*log.Log{l, p.open("u")} {
		for _, seq := range []int{0, 1, 2, 3, 5, 6, 7, 9, 10, -1, -4, -8, math.MinInt, math.MaxInt, 4 + 1<<32, 8 << 32} {
			checkAdd(t, fmt.Sprint(seq), l, log.Record{Kind: log.Forgot, Snap: api.Snap{Seq: seq}}, api.ErrMiss)
		}
	}
	p.checkObjects("ErrMiss", whole)
	addAll(t, l, forgot(8), forgot(4))
	p.checkOpened("then", numbered(append(history(), forgot(8), forgot(4))...)...)
}

// P18.1: ErrFull: of 200 snapshots that aren't forgotten, however many were.
func TestAddFull(t *testing.T) {
	p := newPlace(t, room)
	l := p.open("t")
	var all []log.Record
	both := func(r log.Record) {
		t.Helper()
		add(t, l, r, len(all)+1)
		all = append(all, r)
	}
	for i := range 5 {
		both(made(i))
		both(forgot(2*i + 1))
	}
	for i := range api.MaxSnaps {
		both(made(i))
	}
	was := p.objects()
	for range 2 {
		checkAdd(t, "201", l, made(1), api.ErrFull)
		checkAdd(t, "201, opened anew", p.open("u"), made(1), api.ErrFull)
		checkAdd(t, "201, wrong", l, wrong()[0], api.ErrForm)
		checkAdd(t, "201, Forgot", l, forgot(1), api.ErrMiss)
	}
	p.checkObjects("201", was)
	checkRecords(t, "201", l, numbered(all...)...)
	both(forgot(100))
	both(made(1))
	checkAdd(t, "201 again", l, made(1), api.ErrFull)
	both(forgot(len(all)))
	both(forgot(210))
	both(made(1))
	both(made(2))
	checkAdd(t, "201 again", l, made(1), api.ErrFull)
	p.checkObjects("201 again", chained(t, "t", all...))
	p.checkOpened("201 again", numbered(all...)...)
}

// P18.1: ErrLocked: others' records came since; nothing has changed, and a log that is opened anew goes on.
func TestAddOthersCame(t *testing.T) {
	p := newPlace(t, room)
	a, b := p.open("a"), p.open("b")
	add(t, a, made(1), 1)
	was, steps := p.objects(), p.store.Steps()
	checkAdd(t, "b", b, made(2), api.ErrLocked)
	checkAdd(t, "b, which doesn't know it", b, forgot(1), api.ErrMiss)
	checkRecords(t, "b", b)
	p.checkObjects("b", was)
	if p.store.Steps() != steps {
		t.Error("changes")
	}
	b = p.open("b")
	addAll(t, b, forgot(1), made(3))
	checkAdd(t, "a", a, made(2), api.ErrLocked)
	checkAdd(t, "a", a, forgot(1), api.ErrLocked)
	checkRecords(t, "a", a, numbered(made(1))...)
	p.checkOpened("all", numbered(made(1), forgot(1), made(3))...)
	want := sealed(t, ring(1), recordKind, name(2), nonce("b", 0), told(chainOf([]byte(was[name(1)])), forgot(1)))
	if got, _ := p.store.Get(name(2)); !slices.Equal(got, want) {
		t.Error("a refused one took a nonce")
	}
}

// P18.1: ErrLocked: the cell was raised by others, though no object is there.
func TestAddCellRaised(t *testing.T) {
	p := newPlace(t, room)
	l := p.open("t")
	p.raise(1)
	checkAdd(t, "raised", l, made(1), api.ErrLocked)
	p.checkNames("raised")
}

// P18.1: ErrLocked: such an object is there already, whatever it is; nothing has changed; also where there is no room, or a change more would end the power.
func TestAddThere(t *testing.T) {
	b := []byte(chained(t, "t", made(1))[name(1)])
	for _, there := range [][]byte{nil, []byte("junk"), b} {
		for _, full := range []bool{false, true} {
			p := newPlace(t, room)
			if full {
				p = newPlace(t, 1)
				p.lay("fill", []byte("f"))
				p.lay(draftOf(name(1)), []byte("elder"))
			}
			p.lay(name(1), there)
			l := p.open("t")
			was := p.objects()
			p.store.Arm(0)
			checkAdd(t, "there", l, made(1), api.ErrLocked)
			if p.store.Off() || p.store.Steps() != 0 {
				t.Error("it was a change")
			}
			p.checkObjects("there", was)
			checkRecords(t, "there", l)
			if n, _ := p.cell.Read(); n != 0 {
				t.Error("cell", n)
			}
		}
	}
	p := newPlace(t, room)
	p.lay(name(2), []byte("further"))
	l := p.open("t")
	add(t, l, made(1), 1)
	checkAdd(t, "further", l, made(2), api.ErrLocked)
	p.store.Steal(name(2))
	add(t, l, made(2), 2)
	p.checkObjects("stolen", chained(t, "t", made(1), made(2)))
}

// P18.1: errors come in their order.
func TestAddOrder(t *testing.T) {
	p := newPlace(t, room)
	l := p.open("t")
	for i := range api.MaxSnaps {
		add(t, l, made(i), i+1)
	}
	add(t, p.open("u"), forgot(1), 201)
	p.lay(name(202), nil)
	check := func(what string, last api.Errno) {
		t.Helper()
		for _, r := range wrong() {
			checkAdd(t, what, l, r, api.ErrForm)
		}
		checkAdd(t, what, l, forgot(201), api.ErrMiss)
		checkAdd(t, what, l, made(1), api.ErrFull)
		checkAdd(t, what, l, forgot(1), last)
	}
	check("on", api.ErrLocked)
	p.store.Arm(0)
	check("armed", api.ErrLocked)
	checkErrno(t, "Nudge", p.store.Nudge(), api.ErrDown)
	check("off", api.ErrDown)
}

// P18.1: those of Publish: there is no room; nothing has changed, and with room it goes on.
func TestAddNoRoom(t *testing.T) {
	b := []byte(chained(t, "t", made(1))[name(1)])
	for free, want := range map[int]api.Errno{len(b): api.OK, len(b) - 1: api.ErrFull, 0: api.ErrFull} {
		p := newPlace(t, 1000)
		p.lay("fill", make([]byte, 1000-free))
		l := p.open("t")
		n, e := l.Add(made(1))
		if checkErrno(t, "Add", e, want); want == api.OK {
			continue
		}
		p.checkNames("no room", "fill")
		checkRecords(t, "no room", l)
		if m, _ := p.cell.Read(); n != 0 || m != 0 {
			t.Error("no room", n, m)
		}
		p.store.Delete("fill")
		addAll(t, l, made(1), forgot(1))
		p.checkOpened("room", numbered(made(1), forgot(1))...)
	}
	p := newPlace(t, room)
	l := p.open("t")
	for i := range api.MaxStore {
		p.lay(fmt.Sprint("o", i), nil)
	}
	checkAdd(t, "2000 objects", l, made(1), api.ErrFull)
	p.store.Steal("o7")
	add(t, l, made(1), 1)
	checkAdd(t, "2000 objects", l, forgot(1), api.ErrFull)
	checkRecords(t, "2000 objects", l, numbered(made(1))...)
}

// P18.1: an elder draft of the record's is no matter.
func TestAddElderDraft(t *testing.T) {
	p := newPlace(t, 300)
	p.lay(draftOf(name(1)), make([]byte, 300))
	add(t, p.open("t"), made(1), 1)
	p.checkObjects("draft", chained(t, "t", made(1)))
}

// P18.1: Raise fails: what was published stays, and doesn't count; it stands in the way till it is mended.
func TestAddRaiseFails(t *testing.T) {
	p := newPlace(t, room)
	l := p.open("t")
	add(t, l, made(1), 1)
	p.store.Arm(3)
	checkAdd(t, "Raise", l, made(2), api.ErrDown)
	checkAdd(t, "off", l, made(2), api.ErrDown)
	checkErrno(t, "off", l.Mend(), api.ErrDown)
	checkRecords(t, "off", l, numbered(made(1))...)
	p.store.Crash()
	p.checkObjects("Raise", chained(t, "t", made(1), made(2)))
	p.checkOpened("Raise", numbered(made(1))...)
	checkAdd(t, "in the way", l, made(3), api.ErrLocked)
	checkAdd(t, "in the way", p.open("u"), forgot(1), api.ErrLocked)
	checkErrno(t, "Mend", l.Mend(), api.OK)
	p.checkNames("Mend", name(1))
	add(t, l, made(3), 2)
	p.checkOpened("then", numbered(made(1), made(3))...)
}

// P18.1: a cell by another store's power: whichever of both is off, that is told.
func TestOtherPower(t *testing.T) {
	p := newPlace(t, room)
	other, _ := shelf.New(room)
	c, _ := cell.New(other)
	l, e := log.Open(p.store, pen("t"), c)
	checkErrno(t, "Open", e, api.OK)
	for _, s := range []*shelf.Shelf{p.store, other} {
		s.Arm(0)
		s.Nudge()
		checkAdd(t, "off", l, made(1), api.ErrDown)
		checkErrno(t, "off", l.Mend(), api.ErrDown)
		s.Crash()
		p.checkNames("off")
	}
	add(t, l, made(1), 1)
	other.Arm(0)
	checkAdd(t, "Raise", l, made(2), api.ErrDown)
	p.checkNames("Raise", name(1), name(2))
	other.Crash()
	checkErrno(t, "Mend", l.Mend(), api.OK)
	p.checkNames("Mend", name(1))
}

// P18.1: the chain goes on from the bytes that the log knows, not from what somebody laid there since.
func TestAddBehindAForgedOne(t *testing.T) {
	p := newPlace(t, room)
	l := p.open("t")
	addAll(t, l, made(1), made(2))
	whole := p.store.Photo()
	was := []byte(p.objects()[name(1)])
	other := numbered(made(1), made(7))[1]
	p.lay(name(2), sealed(t, ring(1), recordKind, name(2), nonce("t", 9), told(chainOf(was), other)))
	add(t, l, made(3), 3)
	p.checkCorrupt("forged ahead of Add")
	b, _ := p.store.Get(name(3))
	p.store.Restore(whole)
	p.lay(name(3), b)
	p.checkOpened("as it was", numbered(made(1), made(2), made(3))...)
	p.store.Steal(name(2))
	add(t, l, made(4), 4) // what stands ahead isn't looked at
	p.checkCorrupt("stolen")
}

// P1, P18.1: nil ones, and one that Open didn't make.
func TestNil(t *testing.T) {
	var l *log.Log
	checkAdd(t, "nil", l, made(1), api.ErrArg)
	checkAdd(t, "nil", l, log.Record{}, api.ErrArg)
	checkErrno(t, "nil", l.Mend(), api.ErrArg)
	checkRecords(t, "nil", l)
	s, _ := shelf.New(1)
	c, _ := cell.New(s)
	for _, x := range []struct {
		s *shelf.Shelf
		c *cell.Cell
	}{{nil, nil}, {s, nil}, {nil, c}} {
		if l, e := log.Open(x.s, pen("t"), x.c); l != nil || e != api.ErrArg {
			t.Error(l, e)
		}
	}
	l = new(log.Log)
	l.Mend()
	l.Add(made(1))
	checkRecords(t, "bare", l)
	// A pen without a tape is one, too; and so is one without keys of its own.
	for _, r := range []key.Ring{ring(1), {}} {
		p := newPlace(t, room)
		l, e := log.Open(p.store, key.Pen{Ring: r}, p.cell)
		checkErrno(t, "Open", e, api.OK)
		add(t, l, made(1), 1)
		want := sealed(t, r, recordKind, name(1), [16]byte{}, told([32]byte{}, numbered(made(1))[0]))
		if b, _ := p.store.Get(name(1)); !slices.Equal(b, want) {
			t.Errorf("%x, not %x", b, want)
		}
	}
}

// P18.1: what has the same name as a draft, and other objects, are no matter.
func TestOthersObjects(t *testing.T) {
	p := newPlace(t, room)
	others := map[string]string{"config": "c", "l/00-0": "l", "k/00": "k", "p/a": "p", "x/a": "x", "t/a": "t", "s": "s", "s-1": "s", "w/a": "w", "ss/00000001": "s"}
	for name, b := range others {
		p.lay(name, []byte(b))
	}
	l := p.open("t")
	addAll(t, l, history()...)
	checkErrno(t, "Mend", l.Mend(), api.OK)
	want := chained(t, "t", history()...)
	maps.Copy(want, others)
	p.checkObjects("others", want)
	p.checkOpened("others", numbered(history()...)...)
	if a, b := vault.Publish(p.store, name(9), nil), vault.Publish(p.store, name(8), nil); a != api.OK || b != api.ErrThere {
		t.Error("Publish", a, b)
	}
	checkAdd(t, "published", l, made(9), api.ErrLocked)
}
