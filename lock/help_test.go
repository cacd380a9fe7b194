package lock_test

import (
	"encoding/binary"
	"math/rand"
	"slices"
	"testing"

	"hypogeum/api"
	"hypogeum/cell"
	"hypogeum/key"
	"hypogeum/lock"
	"hypogeum/shelf"
	"hypogeum/wax"
)

// lockKind is that of the document: 6C (base 16).
const lockKind = 0x6C

// some: bytes that look like chance, the same ones each time.
func some(seed int64, n int) []byte {
	b := make([]byte, n)
	rand.New(rand.NewSource(seed)).Read(b)
	return b
}

// ring: keys, unlike for each seed.
func ring(seed int64) key.Ring {
	return key.Ring{Keys: wax.Keys{Hide: [32]byte(some(3*seed, 32)), Mark: [32]byte(some(3*seed+1, 32))}, Name: [32]byte(some(3*seed+2, 32))}
}

// place is where clients work.
type place struct {
	t     *testing.T
	store *shelf.Shelf
	clock *cell.Clock
}

func newPlace(t *testing.T, room int) place {
	t.Helper()
	s, e := shelf.New(room)
	if e != api.OK {
		t.Fatal("shelf.New", e)
	}
	return place{t, s, new(cell.Clock)}
}

// client: a hand of that client, whose tape begins with its number.
func (p place) client(n int) *lock.Locks {
	p.t.Helper()
	l, e := lock.New(p.store, key.Pen{Ring: ring(1), Tape: cell.Wind([]byte{byte(n)})}, p.clock, n)
	if l == nil || e != api.OK {
		p.t.Fatal("New", n, e)
	}
	return l
}

// told: a lock as bytes that aren't sealed yet, by the document's words.
func told(client int, alone bool, time int) []byte {
	b := binary.AppendUvarint([]byte{'H', 'Y', lockKind}, uint64(client))
	if alone {
		b = append(b, 1)
	} else {
		b = append(b, 0)
	}
	return binary.AppendUvarint(b, uint64(time))
}

// sealed: bytes for a name, by these keys.
func sealed(t *testing.T, r key.Ring, kind byte, name string, nonce [16]byte, b []byte) []byte {
	t.Helper()
	s, e := r.Seal(kind, name, nonce, b)
	if e != api.OK {
		t.Fatal("Seal", e)
	}
	return s
}

// lay: there is a lock, whoever made it.
func (p place) lay(name string, client int, alone bool, time int) {
	p.t.Helper()
	p.forge(name, sealed(p.t, ring(1), lockKind, name, [16]byte{7}, told(client, alone, time)))
}

func (p place) forge(name string, b []byte) {
	p.t.Helper()
	if e := p.store.Forge(name, b); e != api.OK {
		p.t.Fatal("Forge", name, e)
	}
}

func (p place) tick(n int) {
	p.t.Helper()
	if e := p.clock.Tick(n); e != api.OK {
		p.t.Fatal("Tick", n, e)
	}
}

// names: all objects there are.
func (p place) names(prefix string) []string {
	p.t.Helper()
	l, e := p.store.List(prefix)
	if e != api.OK {
		p.t.Fatal("List", e)
	}
	return l
}

// checkNames: these objects are there, and no others.
func (p place) checkNames(what string, want ...string) {
	p.t.Helper()
	if l := p.names(""); !slices.Equal(l, want) {
		p.t.Errorf("%s: there are %v, not %v", what, l, want)
	}
}

// checkBytes: the object is a lock by the document's words, by this nonce.
func (p place) checkBytes(object, name string, client int, alone bool, time int, nonce [16]byte) {
	p.t.Helper()
	b, e := p.store.Get(object)
	if e != api.OK || !slices.Equal(b, sealed(p.t, ring(1), lockKind, name, nonce, told(client, alone, time))) {
		p.t.Errorf("%s has other bytes than the lock %s of %d, %v, at %d: %x, %d", object, name, client, alone, time, b, e)
	}
}

// checkLocks: what begins with l/ is a lock of its name, as far as its own bytes say.
func (p place) checkLocks(what string) {
	p.t.Helper()
	for _, name := range p.names("l/") {
		b, _ := p.store.Get(name)
		g, e := ring(1).Open(lockKind, name, b)
		if e != api.OK || len(g) < 6 || len(name) < 6 || int(g[3]) != int(name[2]-'0')*10+int(name[3]-'0') {
			p.t.Errorf("%s: %s is no lock: %x, %d", what, name, g, e)
		}
	}
}

func checkErrno(t *testing.T, what string, e, want api.Errno) {
	t.Helper()
	if e != want {
		t.Errorf("%s: %d, not %d", what, e, want)
	}
}

func checkHeld(t *testing.T, what string, l *lock.Locks, has, alone bool) {
	t.Helper()
	if h, a := l.Held(); h != has || a != alone {
		t.Errorf("%s: Held: %v, %v, not %v, %v", what, h, a, has, alone)
	}
}

// checkStep: the next step answers this.
func checkStep(t *testing.T, what string, l *lock.Locks, last bool, want api.Errno) {
	t.Helper()
	if is, e := l.Step(); is != last || e != want {
		t.Errorf("%s: Step: %v, %d, not %v, %d", what, is, e, last, want)
	}
}

// steps: so many that aren't the last.
func steps(t *testing.T, l *lock.Locks, n int) {
	t.Helper()
	for i := range n {
		if is, e := l.Step(); is || e != api.OK {
			t.Fatal("Step", i, is, e)
		}
	}
}

// take: a lock that nothing stands against.
func take(t *testing.T, l *lock.Locks, alone bool) {
	t.Helper()
	if e := l.Take(alone); e != api.OK {
		t.Fatal("Take", alone, e)
	}
	checkHeld(t, "Take", l, true, alone)
}
