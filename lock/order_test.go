package lock_test

import (
	"fmt"
	"math/rand"
	"testing"

	"hypogeum/api"
	"hypogeum/lock"
)

// hand is a client in a script.
type hand struct {
	*lock.Locks
	number int
	asks   bool
	alone  bool
	begun  int // when it asked
	time   int // when its lock was made, at the latest
}

// checkTaken: no two of the locks that are held and hold would meet.
func checkTaken(t *testing.T, what string, hands []*hand, now int) {
	t.Helper()
	for i, a := range hands {
		for _, b := range hands[:i] {
			hasA, aloneA := a.Held()
			hasB, aloneB := b.Held()
			if hasA && hasB && (aloneA || aloneB) && now-a.time <= lock.Stale && now-b.time <= lock.Stale {
				t.Fatalf("%s: %d and %d have both a lock", what, a.number, b.number)
			}
		}
	}
}

// checkNothingLeft: a client without a lock has no object there.
func checkNothingLeft(p place, what string, h *hand) {
	p.t.Helper()
	for _, prefix := range []string{"k/%02d", "l/%02d-"} {
		if l := p.names(fmt.Sprintf(prefix, h.number)); len(l) != 0 {
			p.t.Fatalf("%s: client %d left %v", what, h.number, l)
		}
	}
}

// act: what a client does next in a script.
func act(p place, chance *rand.Rand, what string, h *hand) {
	switch has, _ := h.Held(); {
	case h.asks:
		last, e := h.Step()
		h.asks = !last
		has, _ := h.Held()
		if e != api.OK && e != api.ErrLocked || has != (last && e == api.OK) {
			p.t.Fatal(what, last, e, has)
		}
		if e != api.OK {
			checkNothingLeft(p, what, h)
		}
		if h.asks && len(p.names(fmt.Sprintf("k/%02d", h.number))) > 0 && h.time < h.begun {
			h.time = p.clock.Now()
		}
	case !has:
		h.alone, h.begun, h.asks = chance.Intn(2) == 0, p.clock.Now(), true
		h.time = h.begun - 1
		checkErrno(p.t, what, h.Ask(h.alone), api.OK)
	case chance.Intn(3) == 0:
		now := p.clock.Now()
		if e := h.Renew(); e == api.OK {
			h.time = now
		} else if e != api.ErrStale || now-h.time <= lock.Stale {
			p.t.Fatal(what, "Renew", e, now-h.time)
		} else { // the stale one stays till others take it away
			for _, name := range p.names(fmt.Sprintf("l/%02d-", h.number)) {
				p.store.Steal(name)
			}
		}
	case chance.Intn(3) == 0:
		checkErrno(p.t, what, h.Release(), api.OK)
		checkNothingLeft(p, what, h)
	}
}

// P14.2, P14.3: whatever the order of steps, and however time goes: no two locks that hold and would meet are both taken; who is refused leaves nothing.
func TestOrders(t *testing.T) {
	both := 0
	for seed := range int64(200) {
		chance := rand.New(rand.NewSource(seed))
		p := newPlace(t, room)
		var hands []*hand
		for i := range 2 + chance.Intn(3) {
			hands = append(hands, &hand{Locks: p.client(i), number: i})
		}
		for n := range 150 {
			what := fmt.Sprint(seed, " ", n)
			h := hands[chance.Intn(len(hands))]
			act(p, chance, what, h)
			if chance.Intn(8) == 0 {
				most := lock.Stale
				for _, h := range hands {
					if h.asks {
						most = min(most, lock.Stale-(p.clock.Now()-h.begun))
					}
				}
				p.tick(chance.Intn(most + 1))
			}
			checkTaken(t, what, hands, p.clock.Now())
			p.checkLocks(what)
			held := 0
			for _, h := range hands {
				if has, _ := h.Held(); has {
					held++
				}
			}
			if held > 1 {
				both++
			}
		}
	}
	if both == 0 {
		t.Error("no two were ever at work")
	}
}

// P14.2: two clients in each order of their steps: never both, where one is alone; both, where none is.
func TestEachOrder(t *testing.T) {
	for order := range 1 << 8 {
		for kinds := range 4 {
			p := newPlace(t, room)
			var hands [2]*hand
			for i := range hands {
				hands[i] = &hand{Locks: p.client(i), number: i, alone: kinds>>i&1 == 1}
				checkErrno(t, "Ask", hands[i].Ask(hands[i].alone), api.OK)
			}
			for i := range 8 {
				hands[order>>i&1].Step()
			}
			for _, h := range hands { // who had too few turns
				for range 4 {
					h.Step()
				}
			}
			a, _ := hands[0].Held()
			b, _ := hands[1].Held()
			if both := a && b; both != (kinds == 0) {
				t.Error(order, kinds, a, b)
			}
			for _, h := range hands {
				if has, _ := h.Held(); !has {
					checkNothingLeft(p, fmt.Sprint(order, kinds), h)
				}
			}
		}
	}
}

// P14.2: a lock holds between its steps, as long as it isn't stale.
func TestSlowSteps(t *testing.T) {
	for _, at := range []int{2, 3} { // the step behind which it waits
		p := newPlace(t, room)
		a, b := p.client(1), p.client(2)
		checkErrno(t, "Ask", a.Ask(true), api.OK)
		p.tick(5)
		steps(t, a, at)
		p.tick(1000)
		steps(t, a, 3-at)
		checkErrno(t, "b", b.Take(false), api.ErrLocked)
		checkStep(t, "4", a, true, api.OK)
		checkErrno(t, "b", b.Take(false), api.ErrLocked)
		p.checkNames("a", "l/01-0")
		p.tick(1)
		take(t, b, true)
		p.checkNames("b", "l/02-0")
	}
}

// P14.2: a lock that was stale ahead of its second look, and whose place somebody else has by now, isn't taken.
func TestTooSlow(t *testing.T) {
	for _, alone := range []bool{false, true} {
		p := newPlace(t, room)
		a, b := p.client(1), p.client(2)
		checkErrno(t, "Ask", a.Ask(alone), api.OK)
		steps(t, a, 3)
		p.tick(1001)
		take(t, b, true)
		p.checkNames("b", "l/02-0")
		checkStep(t, "4", a, true, api.ErrLocked)
		p.checkNames("4", "l/02-0")
	}
}

// P14.4: in scripts in which the power goes, what begins with l/ is a lock behind each crash, and all go on.
func TestPowerInScripts(t *testing.T) {
	for seed := range int64(150) {
		chance := rand.New(rand.NewSource(seed))
		p := newPlace(t, room)
		var hands []*lock.Locks
		for i := range 3 {
			hands = append(hands, p.client(i))
		}
		for n := range 80 {
			l := hands[chance.Intn(len(hands))]
			if chance.Intn(10) == 0 {
				p.store.Arm(chance.Intn(8))
			}
			var e api.Errno
			switch chance.Intn(8) {
			case 0:
				e = l.Ask(chance.Intn(2) == 0)
			case 1:
				e = l.Take(chance.Intn(2) == 0)
			case 2:
				e = l.Renew()
			case 3:
				e = l.Release()
			default:
				_, e = l.Step()
			}
			switch e {
			case api.OK, api.ErrMiss, api.ErrThere, api.ErrLocked, api.ErrStale, api.ErrDown:
			default:
				t.Fatal(seed, n, e)
			}
			if p.store.Off() {
				if e != api.ErrDown && chance.Intn(2) == 0 {
					continue
				}
				p.store.Crash(chance.Int(), chance.Int())
				if i := chance.Intn(len(hands)); chance.Intn(2) == 0 {
					hands[i] = p.client(i)
				}
			}
			p.checkLocks(fmt.Sprint(seed, " ", n))
			p.tick(chance.Intn(200))
		}
	}
}
