package log_test

import (
	"fmt"
	"maps"
	"testing"

	"hypogeum/api"
	"hypogeum/log"
)

// notRecords: names that begin with s/ and aren't of eight records.
func notRecords() []string {
	return []string{
		"s/", "s//", "s/-", "s/0", "s/1", "s/8", "s/00000000", "s/00000009", "s/00000010", "s/99999999", "s/0000001", "s/000000001", "s/0000000001", "s/100000001",
		"s/-0000001", "s/0000000a", "s/a0000001", "s/00000001/", "s/00000001-", "s//0000001", "s/s/000001", "s/00000-01", "s/18446744073709551617", "s/4294967297",
	}
}

// P18.1: all that begins with s/ goes, but for the records; nothing else does.
func TestMend(t *testing.T) {
	p, l := written(t)
	want := p.objects()
	for _, name := range []string{"s", "s-", "s0/00000001", "ss/00000009", "t/" + "s", "a/s/00000009", "config", draftOf(name(9))} {
		p.lay(name, []byte("stays"))
		want[name] = "stays"
	}
	for _, name := range notRecords() {
		p.lay(name, []byte("goes"))
	}
	steps := p.store.Steps()
	checkErrno(t, "Mend", l.Mend(), api.OK)
	p.checkObjects("Mend", want)
	if got := p.store.Steps() - steps; got != len(notRecords()) {
		t.Error(got, "changes")
	}
	checkErrno(t, "again", l.Mend(), api.OK)
	p.checkObjects("again", want)
	checkRecords(t, "Mend", l, numbered(history()...)...)
	p.checkOpened("Mend", numbered(history()...)...)
	add(t, l, made(9), 9)
}

// P18.1: of no records all goes; what isn't synced goes, too.
func TestMendEmpty(t *testing.T) {
	p := newPlace(t, room)
	l := p.open("t")
	for _, name := range append(notRecords(), name(1), name(2)) {
		checkErrno(t, name, p.store.Put(name, nil), api.OK)
	}
	checkErrno(t, "Mend", l.Mend(), api.OK)
	p.checkNames("Mend")
	add(t, l, made(1), 1)
}

// P18.1, P18.3: a record's own object stays, whatever somebody made of it: that is told, not mended.
func TestMendForged(t *testing.T) {
	p, l := written(t)
	p.lay(name(3), []byte("junk"))
	p.store.Steal(name(5))
	want := p.objects()
	checkErrno(t, "Mend", l.Mend(), api.OK)
	p.checkObjects("Mend", want)
	p.checkCorrupt("Mend")
}

// P18.2: a log that was opened ahead of others' records takes none of them away.
func TestMendOthers(t *testing.T) {
	p := newPlace(t, room)
	a, b := p.open("a"), p.open("b")
	addAll(t, b, history()...)
	want := p.objects()
	p.lay(name(9), nil)
	checkErrno(t, "Mend", a.Mend(), api.OK)
	p.checkObjects("Mend", want)
	checkRecords(t, "Mend", a)
	p.checkOpened("Mend", numbered(history()...)...)
}

// P18.1: wherever the power goes: ErrDown; the records are there, and Mend comes to its end by a log that is opened behind that.
func TestMendWithoutPower(t *testing.T) {
	for n := range len(notRecords()) + 1 {
		p, l := written(t)
		want := p.objects()
		for _, name := range notRecords() {
			p.lay(name, nil)
		}
		p.store.Arm(n)
		e := l.Mend()
		if (e == api.OK) != (n == len(notRecords())) || e != api.OK && e != api.ErrDown {
			t.Fatal(n, e)
		}
		if e != api.OK {
			checkErrno(t, "off", l.Mend(), api.ErrDown)
		}
		p.store.Crash()
		if got := len(p.names("")); got != len(want)+len(notRecords())-n {
			t.Error(got, "objects")
		}
		p.checkOpened(fmt.Sprint(n), numbered(history()...)...)
		checkErrno(t, "anew", []*log.Log{l, p.open("u")}[n%2].Mend(), api.OK)
		p.checkObjects("anew", want)
	}
}

// P18.1: a store without power tells so, though there is nothing to mend.
func TestMendOff(t *testing.T) {
	p, l := written(t)
	want := p.objects()
	p.store.Arm(0)
	checkErrno(t, "armed, nothing to do", l.Mend(), api.OK)
	p.store.Nudge()
	checkErrno(t, "off", l.Mend(), api.ErrDown)
	p.store.Crash()
	if got := p.objects(); !maps.Equal(got, want) {
		t.Error(got)
	}
}
