package log_test

import (
	"crypto/sha256"
	"encoding/binary"
	"encoding/hex"
	"fmt"
	"maps"
	"math/rand"
	"slices"
	"strings"
	"testing"

	"hypogeum/api"
	"hypogeum/cell"
	"hypogeum/key"
	"hypogeum/log"
	"hypogeum/shelf"
	"hypogeum/wax"
)

const room = 1 << 24

// recordKind is that of the document: 73 (base 16).
const recordKind = 0x73

// some: bytes that look like chance, the same ones each time.
func some(seed int64, n int) []byte {
	b := make([]byte, n)
	rand.New(rand.NewSource(seed)).Read(b)
	return b
}

// ring: keys, unlike for each seed.
func ring(seed int64) key.Ring {
	return key.Ring{Keys: wax.Keys{Hide: [32]byte(some(3*seed, 32)), Mark: [32]byte(some(3*seed+1, 32))}, Name: [32]byte(some(3*seed+2, 32))}
}

// pen: that of ring 1, with a tape of this beginning.
func pen(begin string) key.Pen {
	return key.Pen{Ring: ring(1), Tape: cell.Wind([]byte(begin))}
}

// nonce: the one of that number (from 0 on) of a tape.
func nonce(begin string, n int) [16]byte {
	return [16]byte(cell.Wind([]byte(begin)).Next(16*n + 16)[16*n:])
}

// made: a record of a snapshot, unlike for each i.
func made(i int) log.Record {
	return log.Record{Kind: log.Made, Snap: api.Snap{Seq: -i, Time: 1000 * i, Note: strings.Repeat("n", i%7), Root: api.Id(some(int64(i), 32))}}
}

// forgot: the record that a snapshot is forgotten.
func forgot(seq int) log.Record {
	return log.Record{Kind: log.Forgot, Snap: api.Snap{Seq: seq, Time: seq & 3}}
}

// place is where records lie.
type place struct {
	t     *testing.T
	store *shelf.Shelf
	cell  *cell.Cell
}

func newPlace(t *testing.T, room int) place {
	t.Helper()
	s, e := shelf.New(room)
	if e != api.OK {
		t.Fatal("shelf.New", e)
	}
	c, e := cell.New(s)
	if e != api.OK {
		t.Fatal("cell.New", e)
	}
	return place{t, s, c}
}

// open: a log of what is there, with a tape of this beginning.
func (p place) open(begin string) *log.Log {
	p.t.Helper()
	l, e := log.Open(p.store, pen(begin), p.cell)
	if l == nil || e != api.OK {
		p.t.Fatal("Open", e)
	}
	return l
}

// checkCorrupt: no log is told of what is there.
func (p place) checkCorrupt(what string) {
	p.t.Helper()
	if l, e := log.Open(p.store, pen("corrupt"), p.cell); l != nil || e != api.ErrCorrupt {
		p.t.Errorf("%s: Open: %v, %d, not %d", what, l != nil, e, api.ErrCorrupt)
	}
}

// checkOpened: a log of what is there tells these records.
func (p place) checkOpened(what string, want ...log.Record) {
	p.t.Helper()
	l, e := log.Open(p.store, pen("opened"), p.cell)
	if l == nil || e != api.OK {
		p.t.Errorf("%s: Open: %d", what, e)
		return
	}
	checkRecords(p.t, what, l, want...)
}

// lay: an object, whoever made it.
func (p place) lay(name string, b []byte) {
	p.t.Helper()
	if e := p.store.Forge(name, b); e != api.OK {
		p.t.Fatal("Forge", name, e)
	}
}

// raise: the cell says that there are so many records.
func (p place) raise(n int) {
	p.t.Helper()
	checkErrno(p.t, "Raise", p.cell.Raise(n), api.OK)
}

// names: of all objects that begin so.
func (p place) names(prefix string) []string {
	p.t.Helper()
	l, e := p.store.List(prefix)
	if e != api.OK {
		p.t.Fatal("List", e)
	}
	return l
}

// objects: all that the store has.
func (p place) objects() map[string]string {
	p.t.Helper()
	m := map[string]string{}
	for _, name := range p.names("") {
		b, e := p.store.Get(name)
		if e != api.OK {
			p.t.Fatal("Get", name, e)
		}
		m[name] = string(b)
	}
	return m
}

// checkObjects: the store has just these.
func (p place) checkObjects(what string, want map[string]string) {
	p.t.Helper()
	if got := p.objects(); !maps.Equal(got, want) {
		p.t.Errorf("%s: there are %v, not %v", what, slices.Sorted(maps.Keys(got)), slices.Sorted(maps.Keys(want)))
	}
}

// checkNames: the store has objects of these names alone.
func (p place) checkNames(what string, want ...string) {
	p.t.Helper()
	if got := p.names(""); !slices.Equal(got, want) {
		p.t.Errorf("%s: there are %v, not %v", what, got, want)
	}
}

// name: that of a record's object, by the document's words.
func name(n int) string { return fmt.Sprintf("s/%08d", n) }

// numbered: records as a log tells them, which began with the first of these.
func numbered(l ...log.Record) []log.Record {
	l = slices.Clone(l)
	for i := range l {
		if l[i].Kind == log.Made {
			l[i].Seq = i + 1
		}
	}
	return l
}

// told: a record as bytes that aren't sealed yet, by the document's words.
func told(chain [32]byte, r log.Record) []byte {
	b := append([]byte{0x48, 0x59, recordKind}, chain[:]...)
	for _, n := range []int{r.Kind, r.Seq, r.Time, len(r.Note)} {
		b = binary.AppendUvarint(b, uint64(n))
	}
	return append(append(b, r.Note...), r.Root[:]...)
}

// sealed: bytes for a name, by these keys.
func sealed(t *testing.T, r key.Ring, kind byte, name string, nonce [16]byte, b []byte) []byte {
	t.Helper()
	s, e := r.Seal(kind, name, nonce, b)
	if e != api.OK {
		t.Fatal("Seal", e)
	}
	return s
}

// chainOf: what the record behind this object names it by.
func chainOf(b []byte) [32]byte { return sha256.Sum256(b) }

// chained: all objects of records, by the document's words, by a tape of which they have all nonces.
func chained(t *testing.T, begin string, l ...log.Record) map[string]string {
	t.Helper()
	m := map[string]string{}
	var chain [32]byte
	for i, r := range numbered(l...) {
		b := sealed(t, ring(1), recordKind, name(i+1), nonce(begin, i), told(chain, r))
		m[name(i+1)], chain = string(b), chainOf(b)
	}
	return m
}

// draftOf: the name of an object's draft, by layer 16.
func draftOf(name string) string {
	s := sha256.Sum256([]byte(name))
	return "t/" + hex.EncodeToString(s[:20])
}

// snaps: those that records leave, by the document's words.
func snaps(l ...log.Record) []api.Snap {
	var left []api.Snap
	for i, r := range l {
		named := slices.ContainsFunc(l[i+1:], func(x log.Record) bool { return x.Kind == log.Forgot && x.Seq == r.Seq })
		if r.Kind == log.Made && !named {
			left = append(left, r.Snap)
		}
	}
	return left
}

func checkErrno(t *testing.T, what string, e, want api.Errno) {
	t.Helper()
	if e != want {
		t.Errorf("%s: %d, not %d", what, e, want)
	}
}

// checkRecords: the log tells these, and the snapshots that they leave.
func checkRecords(t *testing.T, what string, l *log.Log, want ...log.Record) {
	t.Helper()
	if got := l.Records(); !slices.Equal(got, want) {
		t.Errorf("%s: Records: %d, not these %d: %v", what, len(got), len(want), got)
	}
	if got, want := l.Snaps(), snaps(want...); !slices.Equal(got, want) {
		t.Errorf("%s: Snaps: %v, not %v", what, got, want)
	}
}

// add: the record gets this number.
func add(t *testing.T, l *log.Log, r log.Record, want int) {
	t.Helper()
	if n, e := l.Add(r); n != want || e != api.OK {
		t.Fatalf("Add: %d, %d, not %d", n, e, want)
	}
}

// addAll: records, of numbers from the next one on.
func addAll(t *testing.T, l *log.Log, records ...log.Record) {
	t.Helper()
	for _, r := range records {
		add(t, l, r, len(l.Records())+1)
	}
}

// checkAdd: Add answers this error, and nothing beside it.
func checkAdd(t *testing.T, what string, l *log.Log, r log.Record, want api.Errno) {
	t.Helper()
	if n, e := l.Add(r); n != 0 || e != want {
		t.Errorf("%s: Add: %d, %d, not %d", what, n, e, want)
	}
}

// history: records of both kinds.
func history() []log.Record {
	return []log.Record{made(1), made(2), forgot(1), made(4), made(5), forgot(5), forgot(2), made(8)}
}
