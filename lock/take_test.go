package lock_test

import (
	"fmt"
	"math"
	"testing"

	"hypogeum/api"
	"hypogeum/cell"
	"hypogeum/key"
	"hypogeum/lock"
	"hypogeum/shelf"
)

const room = 1 << 20

// P14.1: the document's example.
func TestExample(t *testing.T) {
	p := newPlace(t, room)
	one, two, three := p.client(1), p.client(2), p.client(3)
	checkErrno(t, "client 1", one.Take(false), api.OK)
	checkErrno(t, "client 2", two.Take(false), api.OK)
	checkErrno(t, "client 3", three.Take(true), api.ErrLocked)
	p.tick(1001)
	checkErrno(t, "client 3", three.Take(true), api.OK)
}

// P14.1: what New refuses.
func TestNew(t *testing.T) {
	s, e := shelf.New(0)
	if e != api.OK {
		t.Fatal(e)
	}
	c := new(cell.Clock)
	check := func(what string, s *shelf.Shelf, c *cell.Clock, client int, want api.Errno) {
		t.Helper()
		l, e := lock.New(s, key.Pen{}, c, client)
		if e != want || (l == nil) != (want != api.OK) {
			t.Error(what, l, e)
		}
	}
	check("no store", nil, c, 1, api.ErrArg)
	check("no clock", s, nil, 1, api.ErrArg)
	for _, n := range []int{-1, 100, math.MinInt, math.MaxInt} {
		check("client", s, c, n, api.ErrArg)
	}
	for _, n := range []int{0, 1, 9, 10, 99} {
		check("client", s, c, n, api.OK)
	}
	s.Arm(0)
	s.Nudge()
	check("without power", s, c, 1, api.OK)
}

// P14.1: what each step does: a look, a draft that is synced, its name, another look; with the next nonce, at the time of the draft.
func TestSteps(t *testing.T) {
	for _, client := range []int{0, 1, 9, 10, 42, 99} {
		for _, alone := range []bool{false, true} {
			p := newPlace(t, room)
			l := p.client(client)
			nonce := cell.Wind([]byte{byte(client)}).Nonce()
			name, draft := fmt.Sprintf("l/%02d-0", client), fmt.Sprintf("k/%02d", client)
			checkErrno(t, "Ask", l.Ask(alone), api.OK)
			p.checkNames("Ask")
			p.tick(5)
			checkStep(t, "1", l, false, api.OK)
			p.checkNames("1")
			p.tick(300)
			checkStep(t, "2", l, false, api.OK)
			p.checkNames("2", draft)
			p.checkBytes(draft, name, client, alone, 305, nonce)
			if n := p.store.Steps(); n != 2 {
				t.Error("2:", n, "changes")
			}
			p.store.Crash() // it is synced
			p.tick(7)
			checkHeld(t, "2", l, false, false)
			checkStep(t, "3", l, false, api.OK)
			p.checkNames("3", name)
			checkHeld(t, "3", l, false, false)
			checkStep(t, "4", l, true, api.OK)
			p.checkNames("4", name)
			p.checkBytes(name, name, client, alone, 305, nonce)
			checkHeld(t, "4", l, true, alone)
			if n := p.store.Steps(); n != 3 {
				t.Error("4:", n, "changes")
			}
			checkStep(t, "behind the last", l, true, api.ErrMiss)
			checkHeld(t, "behind the last", l, true, alone)
		}
	}
}

// P14.1: a lock's name has the count of those that the client made ahead, refused ones and renewed ones among them.
func TestNames(t *testing.T) {
	p := newPlace(t, room)
	l := p.client(7)
	nonces := cell.Wind([]byte{7})
	for i := range 23 {
		name := fmt.Sprintf("l/07-%d", i)
		now := p.clock.Now()
		switch i % 3 {
		case 0:
			take(t, l, i%2 == 0)
			p.checkNames("Take", name)
			p.checkBytes(name, name, 7, i%2 == 0, now, nonces.Nonce())
		case 1:
			checkErrno(t, "Renew", l.Renew(), api.OK)
			p.checkNames("Renew", name)
			p.checkBytes(name, name, 7, (i-1)%2 == 0, now, nonces.Nonce())
			checkErrno(t, "Release", l.Release(), api.OK)
			p.checkNames("Release")
		case 2: // refused by its second look
			checkErrno(t, "Ask", l.Ask(true), api.OK)
			steps(t, l, 3)
			p.checkBytes(name, name, 7, true, now, nonces.Nonce())
			p.lay("l/08-0", 8, false, now)
			checkStep(t, "4", l, true, api.ErrLocked)
			p.checkNames("4", "l/08-0")
			p.store.Steal("l/08-0")
		}
		p.tick(11)
	}
	// One that wasn't renamed isn't counted.
	p.lay("l/08-0", 8, true, p.clock.Now())
	checkErrno(t, "Take", l.Take(false), api.ErrLocked)
	p.store.Steal("l/08-0")
	checkErrno(t, "Ask", l.Ask(false), api.OK)
	steps(t, l, 2)
	p.store.Steal("k/07")
	checkStep(t, "3", l, true, api.ErrMiss)
	take(t, l, false)
	p.checkNames("at last", "l/07-23")
}

// P14.1: who asks, or has a lock, doesn't ask; nothing is asked for at first.
func TestAskTwice(t *testing.T) {
	p := newPlace(t, room)
	l := p.client(1)
	checkStep(t, "at first", l, true, api.ErrMiss)
	checkErrno(t, "Ask", l.Ask(false), api.OK)
	for i := range 4 {
		for _, alone := range []bool{false, true} {
			checkErrno(t, "Ask anew", l.Ask(alone), api.ErrThere)
			checkErrno(t, "Take, asking", l.Take(alone), api.ErrThere)
		}
		checkErrno(t, "Renew, asking", l.Renew(), api.ErrMiss)
		checkErrno(t, "Release, asking", l.Release(), api.ErrMiss)
		checkHeld(t, "asking", l, false, false)
		checkStep(t, "Step", l, i == 3, api.OK)
	}
	checkHeld(t, "through", l, true, false)
	checkErrno(t, "Ask", l.Ask(true), api.ErrThere)
	checkErrno(t, "Take", l.Take(true), api.ErrThere)
	checkStep(t, "Step", l, true, api.ErrMiss)
	p.tick(5000)
	checkErrno(t, "Ask, stale", l.Ask(true), api.ErrThere)
	checkHeld(t, "stale", l, true, false)
	p.checkNames("all of it", "l/01-0")
	checkErrno(t, "Release", l.Release(), api.OK)
	take(t, l, true)
}

// meeting is a lock of somebody, and whether client 4 is refused by it at time 3000.
type meeting struct {
	name   string
	client int
	alone  bool
	time   int
	many   bool // refused, if it isn't alone
	one    bool // refused, if it is
}

func meetings() []meeting {
	return []meeting{
		{"l/05-0", 5, false, 3000, false, true},
		{"l/05-0", 5, true, 3000, true, true},
		{"l/05-0", 5, false, 2000, false, true},
		{"l/05-0", 5, true, 2000, true, true},
		{"l/05-0", 5, false, 1999, false, false},
		{"l/05-0", 5, true, 1999, false, false},
		{"l/05-0", 5, true, 0, false, false},
		{"l/03-0", 3, true, 2500, true, true},
		{"l/00-0", 0, true, 2500, true, true},
		{"l/99-0", 99, true, 2500, true, true},
		{"l/40-0", 40, true, 2500, true, true},
		{"l/05-12345", 5, false, 2500, false, true},
		{"l/05-10", 5, true, 3001, true, true},
		{"l/05-10", 5, true, 1 << 41, true, true},
		{"l/04-1", 4, true, 3000, false, false}, // its own, of an elder life
		{"l/04-1", 4, false, 2500, false, false},
		{"l/04-1", 4, true, 1000, false, false},
	}
}

// P14.1, P14.3: which locks meet: by the first look nothing is put, by the second one nothing is left.
func TestMeetings(t *testing.T) {
	for _, m := range meetings() {
		for _, alone := range []bool{false, true} {
			for at := range 4 { // it comes ahead of that step
				p := newPlace(t, room)
				p.tick(3000)
				l := p.client(4)
				checkErrno(t, "Ask", l.Ask(alone), api.OK)
				steps(t, l, at)
				p.lay(m.name, m.client, m.alone, m.time)
				refused := alone && m.one || !alone && m.many
				for i := at; i < 4; i++ {
					if refused && (i == 0 || i == 3) {
						was := p.store.Steps()
						checkStep(t, "met", l, true, api.ErrLocked)
						if n := p.store.Steps() - was; n > i {
							t.Error(m, at, n, "changes")
						}
						break
					}
					checkStep(t, fmt.Sprint(m, alone, at, i), l, i == 3, api.OK)
				}
				what := fmt.Sprint(m, alone, at)
				if refused {
					p.checkNames(what, m.name)
					checkHeld(t, what, l, false, false)
					checkStep(t, what, l, true, api.ErrMiss)
				} else {
					checkHeld(t, what, l, true, alone)
				}
			}
		}
	}
}

// P14.1: all locks of others are looked at, not just the first or the last.
func TestManyLocks(t *testing.T) {
	for at := range 6 {
		p := newPlace(t, room)
		for i := range 6 {
			p.lay(fmt.Sprintf("l/%02d-%d", 10+i, i), 10+i, i == at, 0)
		}
		l := p.client(12)
		if at == 2 { // its own of an elder life
			take(t, l, false)
			continue
		}
		checkErrno(t, "Take", l.Take(false), api.ErrLocked)
		if n := p.store.Steps(); n != 0 {
			t.Error(n, "changes")
		}
	}
}

// P14.1: whoever is alone deletes the stale locks of others; nobody else does, and nothing else goes.
func TestStaleGo(t *testing.T) {
	for _, alone := range []bool{false, true} {
		p := newPlace(t, room)
		p.lay("l/01-7", 1, false, 0)
		p.lay("l/02-0", 2, true, 1)
		p.lay("l/02-3", 2, true, 2)
		p.lay("l/05-9", 5, true, 0) // its own
		p.lay("l/99-0", 99, false, 3)
		p.forge("k/02", []byte("somebody's draft"))
		p.forge("p/1", nil)
		p.tick(1004)
		l := p.client(5)
		checkErrno(t, "Ask", l.Ask(alone), api.OK)
		steps(t, l, 3)
		p.checkNames("3", "k/02", "l/01-7", "l/02-0", "l/02-3", "l/05-0", "l/05-9", "l/99-0", "p/1")
		checkStep(t, "4", l, true, api.OK)
		if alone {
			p.checkNames("alone", "k/02", "l/05-0", "l/05-9", "p/1")
		} else {
			p.checkNames("not alone", "k/02", "l/01-7", "l/02-0", "l/02-3", "l/05-0", "l/05-9", "l/99-0", "p/1")
		}
		checkHeld(t, "4", l, true, alone)
	}
	// Where one of others holds, none goes.
	p := newPlace(t, room)
	p.lay("l/01-0", 1, false, 0)
	p.tick(1001)
	l := p.client(5)
	checkErrno(t, "Ask", l.Ask(true), api.OK)
	steps(t, l, 3)
	p.lay("l/02-0", 2, false, 1001)
	checkStep(t, "4", l, true, api.ErrLocked)
	p.checkNames("refused", "l/01-0", "l/02-0")
}

// P14.1: what an elder life left is no obstacle: its draft and its lock of the name go first.
func TestElderLife(t *testing.T) {
	p := newPlace(t, room)
	take(t, p.client(3), true)
	p.checkNames("an elder life", "l/03-0")
	if e := p.store.Put("k/03", []byte("cut")); e != api.OK {
		t.Fatal(e)
	}
	p.tick(40)
	l := p.client(3)
	checkErrno(t, "Ask", l.Ask(false), api.OK)
	steps(t, l, 2)
	p.checkNames("2", "k/03", "l/03-0")
	p.checkBytes("k/03", "l/03-0", 3, false, 40, cell.Wind([]byte{3}).Nonce())
	steps(t, l, 1)
	p.checkNames("3", "l/03-0")
	p.checkBytes("l/03-0", "l/03-0", 3, false, 40, cell.Wind([]byte{3}).Nonce())
	checkStep(t, "4", l, true, api.OK)

	// So it is when a lock is renewed.
	p.lay("l/03-1", 3, true, 0)
	p.forge("k/03", nil)
	checkErrno(t, "Renew", l.Renew(), api.OK)
	p.checkNames("Renew", "l/03-1")
	checkHeld(t, "Renew", l, true, false)
}

// P14.1: a refused client's elder objects stay, as nothing was put.
func TestElderStays(t *testing.T) {
	p := newPlace(t, room)
	p.lay("l/03-0", 3, false, 0)
	p.forge("k/03", []byte("a draft"))
	p.lay("l/04-0", 4, true, 0)
	checkErrno(t, "Take", p.client(3).Take(false), api.ErrLocked)
	p.checkNames("Take", "k/03", "l/03-0", "l/04-0")
}
