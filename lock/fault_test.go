package lock_test

import (
	"fmt"
	"math"
	"strings"
	"testing"

	"hypogeum/api"
	"hypogeum/cell"
	"hypogeum/key"
	"hypogeum/lock"
)

// fake is an object that begins with l/ and is no lock of its name.
type fake struct {
	name  string
	bytes []byte
}

func fakes(t *testing.T) []fake {
	good := told(5, false, 0)
	seal := func(kind byte, name string, b []byte) []byte {
		return sealed(t, ring(1), kind, name, [16]byte{9}, b)
	}
	l := []fake{
		{"l/05-0", nil}, {"l/05-0", []byte("nothing")}, {"l/05-0", make([]byte, 100)}, {"l/05-0", good},
		{"l/05-0", seal(0x6D, "l/05-0", good)}, {"l/05-0", seal(lockKind, "l/05-1", good)}, {"l/05-0", seal(lockKind, "k/05", good)},
		{"l/05-0", sealed(t, ring(2), lockKind, "l/05-0", [16]byte{9}, good)},
		{"l/05-0", seal(lockKind, "l/05-0", told(6, false, 0))}, {"l/05-0", seal(lockKind, "l/05-0", told(105, false, 0))},
		{"l/05-0", seal(lockKind, "l/05-0", append(told(5, false, 0), 0))}, {"l/05-0", seal(lockKind, "l/05-0", good[:len(good)-1])},
		{"l/05-0", seal(lockKind, "l/05-0", nil)}, {"l/05-0", seal(lockKind, "l/05-0", []byte{'H', 'Y', lockKind, 5, 2, 0})},
		{"l/05-0", seal(lockKind, "l/05-0", []byte{'H', 'Y', lockKind + 1, 5, 0, 0})}, {"l/05-0", seal(lockKind, "l/05-0", []byte{'H', 'Y', lockKind, 5, 0, 0x80, 0})},
	}
	for _, name := range []string{
		"l/", "l/05", "l/05-", "l/5-0", "l/005-0", "l/05-00", "l/05-01", "l/05--1", "l/05-0-", "l/05-x", "l/05-1x", "l/0x-0", "l/-5-0", "l/05/0", "l/05-0/",
		"l/-05-0", "l/05-99999999999999999999999x", "l//05-0", "l/05", "l/l/05-0", "l/" + strings.Repeat("5", 62), "l/-", "l/--",
	} {
		l = append(l, fake{name, seal(lockKind, name, good)})
	}
	return append(l, fake{"l/105-0", seal(lockKind, "l/105-0", told(105, false, 0))}, fake{"l/-1-0", seal(lockKind, "l/-1-0", told(1, false, 0))})
}

// P14.1, P14.3: an object that is no lock of its name: by the first look nothing is put, by the second one nothing is left.
func TestFakes(t *testing.T) {
	for _, f := range fakes(t) {
		for _, alone := range []bool{false, true} {
			for _, client := range []int{4, 5, 6} {
				for at := range 4 {
					what := fmt.Sprint(f.name, alone, client, at)
					p := newPlace(t, room)
					l := p.client(client)
					checkErrno(t, what, l.Ask(alone), api.OK)
					steps(t, l, at)
					p.forge(f.name, f.bytes)
					if at > 0 {
						steps(t, l, 3-at)
					}
					if client == 5 && f.name == "l/05-0" && at > 0 {
						continue // the place where its own one lies: see below
					}
					checkStep(t, what, l, true, api.ErrCorrupt)
					p.checkNames(what, f.name)
					checkHeld(t, what, l, false, false)
					checkStep(t, what, l, true, api.ErrMiss)
				}
			}
		}
	}
}

// P14.1: its own one is looked at, too: by both looks; and so is what was a draft.
func TestOwnFake(t *testing.T) {
	for _, client := range []int{5, 17} {
		name, draft := fmt.Sprintf("l/%02d-0", client), fmt.Sprintf("k/%02d", client)
		for _, what := range []string{name, draft} {
			p := newPlace(t, room)
			l := p.client(client)
			checkErrno(t, "Ask", l.Ask(false), api.OK)
			if what == name {
				steps(t, l, 3)
			} else {
				steps(t, l, 2)
			}
			p.forge(what, []byte("no lock"))
			if what == draft {
				steps(t, l, 1)
			}
			checkStep(t, what, l, true, api.ErrCorrupt)
			p.checkNames(what)
			checkHeld(t, what, l, false, false)
			take(t, l, true)
			p.checkNames("anew", fmt.Sprintf("l/%02d-1", client))
		}
		p := newPlace(t, room)
		p.forge(name, []byte("no lock"))
		checkErrno(t, "Take", p.client(client).Take(false), api.ErrCorrupt)
		p.checkNames("Take", name)
	}
}

// P14.1: what is there by the lock's name, ahead of the third step, goes, whatever it is.
func TestInTheWay(t *testing.T) {
	p := newPlace(t, room)
	l := p.client(5)
	checkErrno(t, "Ask", l.Ask(true), api.OK)
	steps(t, l, 2)
	p.forge("l/05-0", []byte("in the way"))
	steps(t, l, 1)
	checkStep(t, "4", l, true, api.OK)
	p.checkNames("4", "l/05-0")
	p.checkBytes("l/05-0", "l/05-0", 5, true, 0, cell.Wind([]byte{5}).Nonce())
}

// P14.1: names that locks have, by their keys, are none's fault.
func TestGoodNames(t *testing.T) {
	p := newPlace(t, room)
	for i, name := range []string{"l/00-0", "l/09-10", "l/10-9", "l/99-100", "l/42-4000000000"} {
		p.lay(name, []int{0, 9, 10, 99, 42}[i], false, i)
	}
	p.forge("l", nil) // it doesn't begin with l/
	p.forge("la/05-0", nil)
	take(t, p.client(5), false)
}

// P14.1: the store's errors come as they are, and leave nothing.
func TestStoreErrors(t *testing.T) {
	size := len(told(5, false, 0)) + 48
	for free, want := range map[int]api.Errno{size: api.OK, size - 1: api.ErrFull, 0: api.ErrFull} {
		p := newPlace(t, 500)
		if e := p.store.Put("p/1", make([]byte, 500-free)); e != api.OK {
			t.Fatal(e)
		}
		l := p.client(5)
		checkErrno(t, "Ask", l.Ask(false), api.OK)
		steps(t, l, 1)
		checkStep(t, "2", l, want != api.OK, want)
		if want == api.OK {
			continue
		}
		p.checkNames("2", "p/1")
		checkHeld(t, "2", l, false, false)
		checkStep(t, "behind it", l, true, api.ErrMiss)
		p.store.Delete("p/1")
		take(t, l, false)
		p.checkNames("anew", "l/05-0")
	}

	p := newPlace(t, room)
	l := p.client(5)
	checkErrno(t, "Ask", l.Ask(false), api.OK)
	steps(t, l, 2)
	p.store.Steal("k/05")
	checkStep(t, "no draft", l, true, api.ErrMiss)
	checkHeld(t, "no draft", l, false, false)
	p.checkNames("no draft")

	// An elder draft makes room.
	p = newPlace(t, 100)
	p.forge("k/05", make([]byte, 100))
	l = p.client(5)
	take(t, l, false)
	p.checkNames("room", "l/05-0")
}

// P14.1, P14.4: wherever the power goes in a Take, that is told; what begins with l/ is a lock, and the client goes on.
func TestTakeWithoutPower(t *testing.T) {
	changes := 6 // elder draft, Put, Sync, elder lock, Rename, a stale one
	for n := range changes + 1 {
		for pick := range 80 {
			p := newPlace(t, room)
			p.forge("k/05", nil)
			p.lay("l/05-0", 5, false, 0)
			p.lay("l/06-0", 6, true, 0)
			p.tick(1001)
			l := p.client(5)
			p.store.Arm(n)
			if e := l.Take(true); (e == api.OK) != (n == changes) || e != api.OK && e != api.ErrDown {
				t.Fatal(n, e)
			}
			checkHeld(t, "Take", l, n == changes, n == changes)
			if n < changes {
				checkStep(t, "behind it", l, true, api.ErrMiss)
				checkErrno(t, "Renew", l.Renew(), api.ErrMiss)
				checkErrno(t, "Take, without power", l.Take(true), api.ErrDown)
			}
			p.store.Crash(pick)
			p.checkLocks(fmt.Sprint(n, pick))
			if n == changes {
				checkErrno(t, "Release", l.Release(), api.OK)
			}
			take(t, l, true)
			checkErrno(t, "Release", l.Release(), api.OK)
			for _, name := range p.names("") { // locks of its own that were renamed ahead of the power's end may be left, nothing else
				if !strings.HasPrefix(name, "l/05-") {
					t.Error(n, name)
				}
			}
			take(t, p.client(5), false)
		}
	}
}

// P14.1: what was left as the power went is an elder life's: who is refused by the first look changes nothing.
func TestLeftStays(t *testing.T) {
	for n := range 4 {
		for _, renew := range []bool{false, true} {
			p := newPlace(t, room)
			l := p.client(5)
			if renew {
				take(t, l, false)
			}
			p.store.Arm(n)
			if renew && l.Renew() != api.ErrDown || !renew && l.Take(false) != api.ErrDown && n < 3 {
				t.Fatal(n, renew)
			}
			p.store.Crash(1000)
			if has, _ := l.Held(); has {
				checkErrno(t, "Release", l.Release(), api.OK)
			}
			p.lay("l/06-0", 6, true, 0)
			was := p.names("")
			checkErrno(t, "Take", l.Take(true), api.ErrLocked)
			p.checkNames(fmt.Sprint(n, renew), was...)
		}
	}
}

// P14.1: the power goes as a refused one's lock is deleted.
func TestRefusedWithoutPower(t *testing.T) {
	for _, other := range []string{"met", "fake"} {
		p := newPlace(t, room)
		l := p.client(5)
		checkErrno(t, "Ask", l.Ask(true), api.OK)
		steps(t, l, 3)
		p.lay("l/06-0", 6, true, 0)
		if other == "fake" {
			p.forge("l/06-0", nil)
		}
		p.store.Arm(0)
		checkStep(t, other, l, true, api.ErrDown)
		checkHeld(t, other, l, false, false)
		checkStep(t, other, l, true, api.ErrMiss)
		p.store.Crash()
		p.checkNames(other, "l/05-0", "l/06-0")
	}
}

// P1, P14.1: nil ones, and one that New didn't make.
func TestNil(t *testing.T) {
	var l *lock.Locks
	checkErrno(t, "Ask", l.Ask(true), api.ErrArg)
	checkErrno(t, "Take", l.Take(false), api.ErrArg)
	checkErrno(t, "Renew", l.Renew(), api.ErrArg)
	checkErrno(t, "Release", l.Release(), api.ErrArg)
	checkStep(t, "Step", l, true, api.ErrArg)
	checkHeld(t, "Held", l, false, false)
	l = new(lock.Locks)
	l.Renew()
	l.Release()
	l.Step()
	if l.Take(true) == api.OK {
		t.Error("a lock without a store")
	}
	checkHeld(t, "bare", l, false, false)
	// A pen without a tape is one, too.
	p := newPlace(t, room)
	l, e := lock.New(p.store, key.Pen{Ring: ring(1)}, p.clock, 5)
	checkErrno(t, "New", e, api.OK)
	take(t, l, true)
	p.checkBytes("l/05-0", "l/05-0", 5, true, 0, [16]byte{})
	checkErrno(t, "Renew", l.Renew(), api.OK)
}

// P14.1: time as far as a clock goes.
func TestFarTime(t *testing.T) {
	p := newPlace(t, room)
	p.tick(1 << 40)
	p.lay("l/06-0", 6, true, 1<<40-1001)
	p.lay("l/07-0", 7, false, math.MaxInt>>1)
	l := p.client(5)
	take(t, l, false)
	checkErrno(t, "Renew", l.Renew(), api.OK)
	p.checkNames("far", "l/05-1", "l/06-0", "l/07-0")
}
