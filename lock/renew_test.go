package lock_test

import (
	"fmt"
	"testing"

	"hypogeum/api"
	"hypogeum/cell"
)

// P14.1: a lock is made new, as it was, and the one that there was goes; it holds for so long from then on.
func TestRenew(t *testing.T) {
	for _, alone := range []bool{false, true} {
		p := newPlace(t, room)
		l, other := p.client(5), p.client(6)
		nonces := cell.Wind([]byte{5})
		take(t, l, alone)
		nonces.Nonce()
		for i := range 12 {
			p.tick(1000 - i)
			was := p.store.Steps()
			checkErrno(t, "Renew", l.Renew(), api.OK)
			if n := p.store.Steps() - was; n != 4 {
				t.Error(n, "changes")
			}
			name := fmt.Sprintf("l/05-%d", i+1)
			p.checkNames("Renew", name)
			p.checkBytes(name, name, 5, alone, p.clock.Now(), nonces.Nonce())
			checkHeld(t, "Renew", l, true, alone)
			checkStep(t, "Renew", l, true, api.ErrMiss)
		}
		p.tick(1000)
		checkErrno(t, "another", other.Take(true), api.ErrLocked)
		p.tick(1)
		checkErrno(t, "another", other.Take(true), api.OK)
		p.checkNames("another", "l/06-0")
	}
}

// P14.1: none: ErrMiss; one that doesn't hold any longer, or isn't there: ErrStale, and then it has none.
func TestRenewErrors(t *testing.T) {
	p := newPlace(t, room)
	l := p.client(5)
	checkErrno(t, "none", l.Renew(), api.ErrMiss)
	take(t, l, true)
	p.tick(1001)
	checkErrno(t, "stale", l.Renew(), api.ErrStale)
	checkHeld(t, "stale", l, false, false)
	p.checkNames("stale", "l/05-0")
	checkErrno(t, "none any longer", l.Renew(), api.ErrMiss)
	checkErrno(t, "none any longer", l.Release(), api.ErrMiss)

	take(t, l, false)
	p.store.Steal("l/05-1")
	checkErrno(t, "stolen", l.Renew(), api.ErrStale)
	checkHeld(t, "stolen", l, false, false)
	p.checkNames("stolen", "l/05-0")
	checkErrno(t, "none any longer", l.Renew(), api.ErrMiss)
	take(t, l, true)
	p.checkNames("anew", "l/05-0", "l/05-2")

	// Stale, and without power.
	p.tick(1001)
	p.store.Arm(0)
	p.store.Nudge()
	checkErrno(t, "stale, without power", l.Renew(), api.ErrStale)
	checkHeld(t, "stale, without power", l, false, false)
}

// P14.1: where the store has no room for another one, it has the one that it had.
func TestRenewFull(t *testing.T) {
	p := newPlace(t, 100)
	l := p.client(5)
	take(t, l, true)
	p.tick(3)
	checkErrno(t, "Renew", l.Renew(), api.ErrFull)
	checkHeld(t, "Renew", l, true, true)
	p.checkNames("Renew", "l/05-0")
	p.checkBytes("l/05-0", "l/05-0", 5, true, 0, cell.Wind([]byte{5}).Nonce())
	checkErrno(t, "Release", l.Release(), api.OK)
	p.checkNames("Release")
}

// P14.1, P14.4: wherever the power goes in a Renew, that is told; it has a lock still, and it is there.
func TestRenewWithoutPower(t *testing.T) {
	changes := 6 // elder draft, Put, Sync, elder lock, Rename, the one that there was
	for n := range changes + 1 {
		for pick := range 80 {
			p := newPlace(t, room)
			l := p.client(5)
			take(t, l, true)
			p.forge("k/05", nil)
			p.lay("l/05-1", 5, true, 0)
			p.tick(1000)
			p.store.Arm(n)
			want := api.ErrDown
			if n == changes {
				want = api.OK
			}
			checkErrno(t, "Renew", l.Renew(), want)
			checkHeld(t, "Renew", l, true, true)
			if n < changes {
				checkErrno(t, "without power", l.Renew(), api.ErrDown)
				checkErrno(t, "without power", l.Release(), api.ErrDown)
				checkHeld(t, "without power", l, true, true)
			}
			p.store.Crash(pick)
			p.checkLocks(fmt.Sprint(n, pick))
			checkErrno(t, "another", p.client(6).Take(false), api.ErrLocked)
			checkErrno(t, "Renew", l.Renew(), api.OK)
			checkErrno(t, "Release", l.Release(), api.OK)
			checkHeld(t, "Release", l, false, false)
			p.tick(1001)
			take(t, p.client(6), true)
			if names := p.names(""); len(names) != 1 || names[0] != "l/06-0" {
				t.Error(n, pick, names)
			}
		}
	}
}

// P14.1: it is locked no longer; also where the lock isn't there any more, or is stale.
func TestRelease(t *testing.T) {
	p := newPlace(t, room)
	l := p.client(5)
	p.lay("l/06-0", 6, false, 0)
	p.lay("l/05-77", 5, false, 0)
	for _, how := range []string{"there", "stolen", "stale", "forged"} {
		take(t, l, false)
		name := p.names("l/05-")[0]
		switch how {
		case "stolen":
			p.store.Steal(name)
		case "stale":
			p.tick(1001)
		case "forged":
			p.forge(name, nil)
		}
		checkErrno(t, how, l.Release(), api.OK)
		checkHeld(t, how, l, false, false)
		p.checkNames(how, "l/05-77", "l/06-0")
		checkErrno(t, how, l.Release(), api.ErrMiss)
		checkErrno(t, how, l.Renew(), api.ErrMiss)
	}
}

// P14.1: one that was released stands against nobody.
func TestReleased(t *testing.T) {
	p := newPlace(t, room)
	a, b := p.client(1), p.client(2)
	take(t, a, true)
	checkErrno(t, "b", b.Take(false), api.ErrLocked)
	checkErrno(t, "b", b.Take(true), api.ErrLocked)
	checkErrno(t, "a", a.Release(), api.OK)
	take(t, b, false)
	checkErrno(t, "a", a.Take(true), api.ErrLocked)
	take(t, a, false)
	checkErrno(t, "b", b.Release(), api.OK)
	checkErrno(t, "b", b.Take(true), api.ErrLocked)
	checkErrno(t, "a", a.Release(), api.OK)
	take(t, b, true)
	checkErrno(t, "a", a.Take(false), api.ErrLocked)
}
