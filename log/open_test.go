package log_test

import (
	"fmt"
	"math"
	"slices"
	"strings"
	"testing"

	"hypogeum/api"
	"hypogeum/cell"
	"hypogeum/log"
	"hypogeum/shelf"
)

// written: a place with the records of history; their log.
func written(t *testing.T) (place, *log.Log) {
	t.Helper()
	p := newPlace(t, room)
	l := p.open("t")
	addAll(t, l, history()...)
	return p, l
}

// P18.1: errors of the store, and of the cell by it.
func TestOpenOff(t *testing.T) {
	p, l := written(t)
	p.store.Arm(0)
	p.store.Nudge()
	if l, e := log.Open(p.store, pen("u"), p.cell); l != nil || e != api.ErrDown {
		t.Error(l, e)
	}
	checkRecords(t, "off", l, numbered(history()...)...) // these need no power
	p.store.Crash()
	p.checkOpened("on", numbered(history()...)...)

	// A cell by another store's power.
	s, _ := shelf.New(room)
	for name, b := range p.objects() {
		s.Forge(name, []byte(b))
	}
	for _, off := range []*shelf.Shelf{s, p.store} {
		off.Arm(0)
		off.Nudge()
		if l, e := log.Open(s, pen("u"), p.cell); l != nil || e != api.ErrDown {
			t.Error(l, e)
		}
		off.Crash()
	}
	if _, e := log.Open(s, pen("u"), p.cell); e != api.OK {
		t.Error(e)
	}
}

// P18.1: opening changes nothing, and takes no nonce.
func TestOpenChangesNothing(t *testing.T) {
	p, _ := written(t)
	was, steps := p.objects(), p.store.Steps()
	q := pen("u")
	for range 3 {
		_, e := log.Open(p.store, q, p.cell)
		checkErrno(t, "Open", e, api.OK)
	}
	p.checkObjects("Open", was)
	if p.store.Steps() != steps || q.Nonce() != nonce("u", 0) {
		t.Error("changes, or nonces")
	}
}

// P18.1: records that aren't there: the first, one in the midst, the last; also where the cell says any great number.
func TestOpenStolen(t *testing.T) {
	p, _ := written(t)
	whole := p.store.Photo()
	for i := range history() {
		p.store.Steal(name(i + 1))
		p.checkCorrupt(fmt.Sprint("stolen ", i+1))
		p.store.Restore(whole)
	}
	for _, n := range []int{9, 10, 100, 99999999, 100000000, 1<<62 - 1} {
		p.raise(n)
		p.checkCorrupt(fmt.Sprint("raised to ", n))
	}
}

// P18.1: objects behind the cell's number don't count, whatever they are.
func TestBehindTheEnd(t *testing.T) {
	p, _ := written(t)
	for _, b := range []string{"", "junk", chained(t, "t", append(history(), made(9))...)[name(9)]} {
		for _, n := range []int{9, 10, 11, 99999999} {
			p.lay(name(n), []byte(b))
			p.checkOpened("behind", numbered(history()...)...)
		}
	}
	for _, other := range []string{"s/", "s/0", "s/1", "s/000000001", "s/0000001", "s/00000000", "s/-0000001", "s/0000000a", "s//0000001", "s/00000001/"} {
		p.lay(other, []byte("junk"))
		p.checkOpened(other, numbered(history()...)...)
	}
}

// forms: what is sealed as the third record, rightly chained, and is none there; the first is of snapshot 1, the second too or says that it is forgotten.
func forms(t *testing.T, chain [32]byte) map[string][]byte {
	snap := numbered(made(1), made(1), made(3))[2]
	m := map[string][]byte{}
	of := func(what string, r log.Record) { m[what] = told(chain, r) }
	for i, r := range wrong() {
		// Of numbers below 0 there are bytes, too: glyph's don't have so many bits.
		if r.Kind == log.Made {
			r.Seq = 3
		}
		of(fmt.Sprint("wrong ", i), r)
	}
	for _, seq := range []int{0, 1, 2, 4, math.MaxInt, 3 + 1<<32} {
		r := snap
		r.Seq = seq
		of(fmt.Sprint("Made, of Seq ", seq), r)
	}
	for _, seq := range []int{0, 2, 3, 4, 1 + 1<<32, math.MaxInt} {
		of(fmt.Sprint("Forgot, of Seq ", seq), forgot(seq))
	}
	of("right", snap)
	right := m["right"]
	m["nothing"] = nil
	m["a byte more"] = append(slices.Clone(right), 0)
	for n := range len(right) {
		m[fmt.Sprint("cut to ", n)] = right[:n]
	}
	for at, x := range map[int]byte{0: 0x49, 1: 0x58, 2: recordKind + 1, 3: right[3] ^ 1, 34: right[34] ^ 128} {
		b := slices.Clone(right)
		b[at] = x
		m[fmt.Sprint("other byte ", at)] = b
	}
	for at := 35; at < 37; at++ { // Kind and Seq, with a nought behind
		b := slices.Clone(right)
		b[at] |= 128
		m[fmt.Sprint("two bytes ", at)] = slices.Insert(b, at+1, 0)
	}
	delete(m, "right")
	m["no chain"] = told([32]byte{}, snap)
	m["a note's count"] = slices.Concat(right[:len(right)-32-len(snap.Note)-1], []byte{0xff, 0xff, 0xff, 0xff, 0xff, 0xff, 0xff, 0xff, 0x3f}, right[len(right)-32:])
	return m
}

// P18.1: sealed for its name by the right keys, and not in form, or not to be there.
func TestOpenForm(t *testing.T) {
	for _, second := range []log.Record{made(2), forgot(1)} {
		p := newPlace(t, room)
		for name, b := range chained(t, "t", made(1), second) {
			p.lay(name, []byte(b))
		}
		p.raise(3)
		b, _ := p.store.Get(name(2))
		lay := func(g []byte) { p.lay(name(3), sealed(t, ring(1), recordKind, name(3), nonce("t", 2), g)) }
		for what, g := range forms(t, chainOf(b)) {
			if second.Kind == log.Made && what == "Forgot, of Seq 2" {
				continue // it is a snapshot's there
			}
			lay(g)
			p.checkCorrupt(what)
		}
		r := numbered(made(1), second, made(3))
		lay(told(chainOf(b), r[2]))
		p.checkOpened("right", r...)
	}
}

// P18.1: a Forgot of what was forgotten already; and of what is made only later.
func TestOpenForgot(t *testing.T) {
	for i, l := range [][]log.Record{
		{forgot(1)}, {forgot(0)}, {forgot(2), made(1)}, {made(1), forgot(1), forgot(1)}, {made(1), forgot(1), made(3), forgot(1)}, {made(1), forgot(2)}, {made(1), forgot(3), made(2)},
		{made(1), forgot(1), forgot(2)}, {made(1), made(2), forgot(2), made(4), forgot(3)},
	} {
		p := newPlace(t, room)
		for name, b := range chained(t, "t", l...) {
			p.lay(name, []byte(b))
		}
		for n := range len(l) {
			p.raise(n + 1)
		}
		p.checkCorrupt(fmt.Sprint(i))
	}
}

// P18.1: more snapshots than Add would take are no fault of what is there.
func TestOpenMany(t *testing.T) {
	var all []log.Record
	for i := range api.MaxSnaps + 5 {
		all = append(all, made(i))
	}
	p := newPlace(t, room)
	for name, b := range chained(t, "t", all...) {
		p.lay(name, []byte(b))
	}
	p.raise(len(all))
	p.checkOpened("many", numbered(all...)...)
	checkAdd(t, "many", p.open("u"), made(1), api.ErrFull)
}

// P18.3: other keys, another kind, another name: not sealed for its name.
func TestOpenSeals(t *testing.T) {
	p, _ := written(t)
	whole := p.objects()
	for i, r := range numbered(history()...) {
		var chain [32]byte
		if i > 0 {
			chain = chainOf([]byte(whole[name(i)]))
		}
		n, g := nonce("t", i), told(chain, r)
		for what, b := range map[string][]byte{
			"other keys":    sealed(t, ring(2), recordKind, name(i+1), n, g),
			"another kind":  sealed(t, ring(1), 0x6C, name(i+1), n, g),
			"another name":  sealed(t, ring(1), recordKind, name(i+2), n, g),
			"its draft's":   sealed(t, ring(1), recordKind, draftOf(name(i+1)), n, g),
			"no seal":       g,
			"nothing":       nil,
			"a seal of one": sealed(t, ring(1), recordKind, name(i+1), n, []byte(whole[name(i+1)])),
		} {
			p.lay(name(i+1), b)
			p.checkCorrupt(fmt.Sprint(i+1, what))
		}
		p.lay(name(i+1), []byte(whole[name(i+1)]))
	}
	p.checkOpened("as it was", numbered(history()...)...)
	if l, e := log.Open(p.store, pen("t"), p.cell); l == nil || e != api.OK {
		t.Error(e)
	}
	q := pen("t")
	q.Ring = ring(2)
	if l, e := log.Open(p.store, q, p.cell); l != nil || e != api.ErrCorrupt {
		t.Error(l, e)
	}
}

// P18.3: each byte of each record counts, and their count.
func TestEachByte(t *testing.T) {
	p, _ := written(t)
	for object, whole := range p.objects() {
		for i := range len(whole) {
			b := []byte(whole)
			b[i] ^= 1 << (i % 8)
			p.lay(object, b)
			p.checkCorrupt(fmt.Sprint(object, " changed at ", i))
			if i%7 == 0 {
				p.lay(object, []byte(whole[:i]))
				p.checkCorrupt(fmt.Sprint(object, " cut to ", i))
			}
		}
		for _, b := range []string{whole + "\x00", whole[1:], whole + whole, strings.Repeat("x", 1<<20)} {
			p.lay(object, []byte(b))
			p.checkCorrupt(object)
		}
		p.lay(object, []byte(whole))
	}
	p.checkOpened("as it was", numbered(history()...)...)
}

// P18.3: records in one another's place; one taken out, with all behind it one further; one put in.
func TestOthersPlaces(t *testing.T) {
	p, _ := written(t)
	whole, image := p.objects(), p.store.Photo()
	n := len(history())
	for i := 1; i <= n; i++ {
		for j := 1; j <= n; j++ {
			if i == j {
				continue
			}
			p.lay(name(i), []byte(whole[name(j)]))
			p.checkCorrupt(fmt.Sprint(j, " in the place of ", i))
			p.lay(name(j), []byte(whole[name(i)]))
			p.checkCorrupt(fmt.Sprint(j, " and ", i))
			p.store.Restore(image)
		}
		if i == n { // behind it nothing counts
			continue
		}
		for j := i; j < n; j++ {
			p.lay(name(j), []byte(whole[name(j+1)]))
		}
		p.checkCorrupt(fmt.Sprint("without ", i))
		p.store.Steal(name(n))
		p.checkCorrupt(fmt.Sprint("without ", i, ", shorter"))
		p.store.Restore(image)
		for j := n; j >= i; j-- {
			p.lay(name(j+1), []byte(whole[name(j)]))
		}
		p.checkCorrupt(fmt.Sprint("one more at ", i))
		p.store.Restore(image)
	}
}

// P18.3: records of another store by the same keys, whose own chain is another one.
func TestOtherChain(t *testing.T) {
	p, _ := written(t)
	image := p.store.Photo()
	other := newPlace(t, room)
	l := other.open("other")
	l2 := history()
	l2[0].Time++ // all behind it name another one ahead
	addAll(t, l, l2...)
	theirs := other.objects()
	lay := func(what string, from, to int) {
		t.Helper()
		for i := from; i <= to; i++ {
			p.lay(name(i), []byte(theirs[name(i)]))
		}
		p.checkCorrupt(fmt.Sprint(what, " ", from, " to ", to))
		p.store.Restore(image)
	}
	n := len(l2)
	for i := 1; i < n; i++ {
		lay("the first", 1, i)
		lay("one", i+1, i+1)
		lay("the last", i+1, n)
	}
}

// P18.3: a store of an elder time is told, whole or in part; the latest one isn't.
func TestElderTime(t *testing.T) {
	p := newPlace(t, room)
	l := p.open("t")
	images := []*shelf.Image{p.store.Photo()}
	for i, r := range history() {
		add(t, l, r, i+1)
		now := p.store.Photo()
		for j, image := range images {
			p.store.Restore(image)
			p.checkCorrupt(fmt.Sprint(j, " of ", i+1))
			p.store.Restore(now)
		}
		images = append(images, now)
		p.checkOpened("now", numbered(history()[:i+1]...)...)
	}
	p.store.Restore(images[3])
	add(t, l, made(9), 9) // by a log that knows: what is gone stays gone
	p.checkCorrupt("an elder store, with one more")
}

// P18.3: a cell of another store with another number: too few, and all that count are told; too many: ErrCorrupt.
func TestOtherCell(t *testing.T) {
	p, _ := written(t)
	for n := range len(history()) + 3 {
		s, _ := shelf.New(1)
		c, _ := cell.New(s)
		if n > 0 {
			c.Raise(n)
		}
		q := place{t, p.store, c}
		if n <= len(history()) {
			q.checkOpened(fmt.Sprint(n), numbered(history()[:n]...)...)
		} else {
			q.checkCorrupt(fmt.Sprint(n))
		}
	}
}
