package roll_test

import (
	"bytes"
	"math"
	"math/rand"
	"testing"

	"hypogeum/api"
	"hypogeum/poly"
	"hypogeum/roll"
)

// some: bytes that look like chance, the same ones each time.
func some(seed int64, n int) []byte {
	b := make([]byte, n)
	rand.New(rand.NewSource(seed)).Read(b)
	return b
}

// moduli: of a degree, few ones and many ones among them.
func moduli(degree int) []poly.Poly {
	top := poly.Poly(1) << degree
	r := rand.New(rand.NewSource(int64(degree)))
	return []poly.Poly{top, top | 1, top | (top - 1), top | poly.Poly(r.Uint64())&(top-1)}
}

// rest: a sum, bit by bit.
func rest(m poly.Poly, b []byte) poly.Poly {
	var s poly.Poly
	for _, x := range b {
		for i := 7; i >= 0; i-- {
			s = s<<1 | poly.Poly(x>>i&1)
			if s>>m.Deg() == 1 {
				s ^= m
			}
		}
	}
	return s
}

// last: the window's bytes when b came: noughts ahead of the first.
func last(window int, b []byte) []byte {
	return append(make([]byte, window), b...)[len(b):]
}

func made(t *testing.T, m poly.Poly, window int) *roll.Roll {
	t.Helper()
	r, e := roll.New(m, window)
	if r == nil || e != api.OK {
		t.Fatal("New", m, window, r, e)
	}
	return r
}

// P4.1: the document's examples.
func TestExamples(t *testing.T) {
	if s, e := roll.Of(0x11b, []byte{1, 0}); s != 0x1b || e != api.OK {
		t.Error(s, e)
	}
	r := made(t, 0x11b, 1)
	if a, b := r.Push(5), r.Push(7); a != 5 || b != 7 {
		t.Error(a, b)
	}
}

// P4.1: Of, modulo polynomials of all degrees, of all counts of bytes.
func TestOf(t *testing.T) {
	b := some(1, 150)
	for d := 8; d <= 63; d++ {
		for _, m := range moduli(d) {
			for n := range len(b) {
				if got, e := roll.Of(m, b[:n]); got != rest(m, b[:n]) || e != api.OK {
					t.Fatalf("Of(%x, %d bytes) = %x, %d", m, n, got, e)
				}
			}
		}
	}
}

// P4.1: where a byte's bits go; bytes that have room below the degree are the sum themselves.
func TestOfBits(t *testing.T) {
	for i := range 8 {
		if got, _ := roll.Of(1<<63, []byte{1 << i}); got != 1<<i {
			t.Errorf("bit %d: %x", i, got)
		}
	}
	if got, _ := roll.Of(1<<63, []byte{0x12, 0x34, 0x56, 0x78, 0x9a, 0xbc, 0xde}); got != 0x123456789abcde {
		t.Errorf("%x", got)
	}
	for _, b := range [][]byte{nil, {}, {0}, make([]byte, 1000)} {
		if got, e := roll.Of(0x11b, b); got != 0 || e != api.OK {
			t.Error(len(b), got, e)
		}
	}
}

// P4.1, and rule 2: a modulus has a degree of 8 to 63.
func TestModulusEdges(t *testing.T) {
	for _, m := range []poly.Poly{0, 1, 2, 127, 128, 255} {
		if s, e := roll.Of(m, []byte{1}); s != 0 || e != api.ErrArg {
			t.Error("Of", m, s, e)
		}
		if s, e := roll.Of(m, nil); s != 0 || e != api.ErrArg {
			t.Error("Of no bytes", m, s, e)
		}
		if r, e := roll.New(m, 64); r != nil || e != api.ErrArg {
			t.Error("New", m, r, e)
		}
	}
	for _, m := range []poly.Poly{256, 511, 1 << 63, math.MaxUint64} {
		if _, e := roll.Of(m, []byte{1}); e != api.OK {
			t.Error("Of", m, e)
		}
		made(t, m, 64)
	}
}

// P4.1, and rule 2: a window has 1 to 1024 bytes.
func TestWindowEdges(t *testing.T) {
	for _, n := range []int{0, -1, 1025, math.MinInt, math.MaxInt} {
		if r, e := roll.New(0x11b, n); r != nil || e != api.ErrArg {
			t.Error(n, r, e)
		}
	}
	made(t, 0x11b, 1)
	made(t, 0x11b, 1024)
}

func checkRoll(t *testing.T, m poly.Poly, window int, b []byte) {
	t.Helper()
	r := made(t, m, window)
	if r.Sum() != 0 {
		t.Errorf("a new roll's sum is %x", r.Sum())
	}
	for i, x := range b {
		want := rest(m, last(window, b[:i+1]))
		if got := r.Push(x); got != want || r.Sum() != want {
			t.Fatalf("modulo %x, window %d, byte %d: %x, %x, not %x", m, window, i, got, r.Sum(), want)
		}
	}
}

// P4.1: after each byte the sum is Of of the window's bytes, modulo polynomials of all degrees.
func TestPush(t *testing.T) {
	b := some(2, 200)
	for d := 8; d <= 63; d++ {
		for _, m := range moduli(d) {
			for _, window := range []int{1, 2, 3, 8, 64, 150} {
				checkRoll(t, m, window, b)
			}
		}
	}
}

// P4.1: all windows; the longest ones go round, too.
func TestWindows(t *testing.T) {
	const m = 0x3da3358b4dc173
	b := some(3, 3000)
	for window := 1; window <= 1024; window++ {
		r := made(t, m, window)
		want, e := roll.Of(m, b[len(b)-window:])
		if got := r.Push(b...); got != want || e != api.OK {
			t.Fatal(window, got, want, e)
		}
	}
	checkRoll(t, m, 1024, b[:1100])
}

// P4.1: bytes may come one by one or many at a time; if none come, the sum stays.
func TestPushShares(t *testing.T) {
	const m = 0x3da3358b4dc173
	b := some(4, 300)
	want := rest(m, b[len(b)-64:])
	for i := range b {
		r := made(t, m, 64)
		r.Push(b[:i]...)
		was := r.Sum()
		if got := r.Push(); got != was || r.Sum() != was {
			t.Error("none came:", got, was)
		}
		if got := r.Push(b[i:]...); got != want {
			t.Errorf("parted at %d: %x", i, got)
		}
	}
}

// P4.1: behind Clear a roll is as new.
func TestClear(t *testing.T) {
	const m = 0x3da3358b4dc173
	b := some(5, 200)
	for _, n := range []int{0, 1, 5, 63, 64, 65, 130} {
		r, fresh := made(t, m, 64), made(t, m, 64)
		r.Push(b[:n]...)
		r.Clear()
		if r.Sum() != 0 {
			t.Error(n, r.Sum())
		}
		for i, x := range b {
			if got, want := r.Push(x), fresh.Push(x); got != want {
				t.Fatal(n, i, got, want)
			}
		}
	}
}

// P4.2: the last bytes alone count, as many as the window has: the one ahead of them doesn't, the eldest of them does.
func TestLastBytesAlone(t *testing.T) {
	for _, d := range []int{8, 24, 53, 63} {
		m := moduli(d)[1]
		for _, window := range []int{1, 2, 63, 64, 65, 1024} {
			b := some(int64(window), window)
			r, other := made(t, m, window), made(t, m, window)
			r.Push(some(6, 77)...)
			other.Push(some(7, 1500)...)
			if got, want := r.Push(b...), other.Push(b...); got != want || got != rest(m, b) {
				t.Error(d, window, got, want)
			}
			b[0] ^= 1
			if r.Sum() == other.Push(b...) {
				t.Error(d, window, "the eldest byte doesn't count")
			}
		}
	}
}

// P1, P4.1: a nil roll answers 0; one that nobody made ends, too.
func TestNilRoll(t *testing.T) {
	for _, r := range []*roll.Roll{nil, {}} {
		r.Clear()
		if a, b, c, d := r.Push(), r.Push(1), r.Push(1, 2, 3), r.Sum(); a != 0 || b != 0 || c != 0 || d != 0 {
			t.Error(a, b, c, d)
		}
		r.Clear()
	}
}

// Rule 4: bytes that are handed in stay as they are, their spare room too, and aren't kept.
func TestNothingIsChangedOrKept(t *testing.T) {
	const m = 0x3da3358b4dc173
	room := some(8, 400)
	was := bytes.Clone(room)
	r := made(t, m, 64)
	r.Push(room[:100]...)
	if _, e := roll.Of(m, room[:100]); e != api.OK || !bytes.Equal(room, was) {
		t.Error("bytes are changed", e)
	}
	clear(room)
	if got, want := r.Push(1), rest(m, append(was[37:100:100], 1)); got != want {
		t.Errorf("%x, not %x", got, want)
	}
}

// Rule 5: rolls don't disturb one another.
func TestRollsApart(t *testing.T) {
	a, b := made(t, 0x11b, 3), made(t, 0x11b, 3)
	a.Push(1, 2, 3)
	b.Push(200, 100)
	b.Clear()
	if a.Sum() != rest(0x11b, []byte{1, 2, 3}) || b.Sum() != 0 {
		t.Error(a.Sum(), b.Sum())
	}
}
