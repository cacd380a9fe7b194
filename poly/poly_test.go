package poly_test

import (
	"math"
	"math/rand"
	"testing"

	"hypogeum/api"
	"hypogeum/poly"
)

const most = poly.Poly(math.MaxUint64)

// some: polynomials that look like chance, of all degrees, the same ones each time; the edges are among them.
func some(seed int64, n int) []poly.Poly {
	r := rand.New(rand.NewSource(seed))
	l := []poly.Poly{0, 1, 2, 3, 1 << 31, 1 << 32, 1 << 62, 1 << 63, 1<<63 + 1, most, most >> 1, most - 1}
	for len(l) < n {
		l = append(l, poly.Poly(r.Uint64()>>r.Intn(64)))
	}
	return l
}

// wide has a coefficient in each bool: so an oracle needs no tricks.
type wide [128]bool

func (w wide) deg() int {
	for i := 127; i >= 0; i-- {
		if w[i] {
			return i
		}
	}
	return -1
}

func (w wide) half(from int) poly.Poly {
	var p poly.Poly
	for i := range 64 {
		if w[from+i] {
			p |= 1 << i
		}
	}
	return p
}

// product: term by term.
func product(a, b poly.Poly) wide {
	var w wide
	for i := range 64 {
		for j := range 64 {
			if a>>i&1 == 1 && b>>j&1 == 1 {
				w[i+j] = !w[i+j]
			}
		}
	}
	return w
}

// rest: m is taken away, as far up as it fits, till it doesn't any more.
func (w wide) rest(m poly.Poly) poly.Poly {
	by := product(m, 1)
	for w.deg() >= by.deg() {
		up := w.deg() - by.deg()
		for i := range by.deg() + 1 {
			w[up+i] = w[up+i] != by[i]
		}
	}
	return w.half(0)
}

// P3.1: Deg is that of the highest coefficient that is 1; -1 of 0.
func TestDeg(t *testing.T) {
	if got := poly.Poly(0).Deg(); got != -1 {
		t.Error("of 0:", got)
	}
	for i := range 64 {
		top := poly.Poly(1) << i
		for _, p := range []poly.Poly{top, top | 1, top | (top - 1), top | top>>1} {
			if got := p.Deg(); got != i {
				t.Errorf("of %x: %d", p, got)
			}
		}
	}
}

// P3.1: Add is the sum of any count; like ones go.
func TestAdd(t *testing.T) {
	for i, x := range []struct {
		l    []poly.Poly
		want poly.Poly
	}{
		{nil, 0},
		{[]poly.Poly{}, 0},
		{[]poly.Poly{0}, 0},
		{[]poly.Poly{most}, most},
		{[]poly.Poly{5, 3}, 6},
		{[]poly.Poly{5, 5}, 0},
		{[]poly.Poly{5, 5, 5}, 5},
		{[]poly.Poly{1, 2, 4, 8, 1 << 63}, 1<<63 + 15},
		{[]poly.Poly{most, 1, most}, 1},
	} {
		if got := poly.Add(x.l...); got != x.want {
			t.Errorf("%d: %x", i, got)
		}
	}
}

// P3.1: Mul, by the document's example and at the edges.
func TestMulExamples(t *testing.T) {
	for _, x := range []struct{ a, b, high, low poly.Poly }{
		{3, 3, 0, 5},
		{0, most, 0, 0},
		{most, 0, 0, 0},
		{1, most, 0, most},
		{most, 1, 0, most},
		{2, most, 1, most - 1},
		{most, 2, 1, most - 1},
		{1 << 63, 1 << 63, 1 << 62, 0},
		{1 << 32, 1 << 32, 1, 0},
		{1 << 31, 1 << 32, 0, 1 << 63},
		{most, most, 0x5555555555555555, 0x5555555555555555},
	} {
		if high, low := poly.Mul(x.a, x.b); high != x.high || low != x.low {
			t.Errorf("Mul(%x, %x) = %x, %x", x.a, x.b, high, low)
		}
	}
}

// P3.1: Mul, against the product term by term.
func TestMulMany(t *testing.T) {
	l := some(1, 60)
	for _, a := range l {
		for _, b := range l {
			w := product(a, b)
			if high, low := poly.Mul(a, b); high != w.half(64) || low != w.half(0) {
				t.Errorf("Mul(%x, %x) = %x, %x", a, b, high, low)
			}
		}
	}
}

func checkDiv(t *testing.T, a, b poly.Poly) {
	t.Helper()
	q, r, e := poly.Div(a, b)
	w := product(q, b)
	if e != api.OK || r.Deg() >= b.Deg() || w.half(64) != 0 || w.half(0)^r != a {
		t.Errorf("Div(%x, %x) = %x, %x, %d", a, b, q, r, e)
	}
}

// P3.1: Div, by the document's example, by all small ones, by many great ones.
func TestDiv(t *testing.T) {
	if q, r, e := poly.Div(11, 3); q != 6 || r != 1 || e != api.OK {
		t.Error(q, r, e)
	}
	for a := range poly.Poly(128) {
		for b := range poly.Poly(128) {
			if b > 0 {
				checkDiv(t, a, b)
			}
		}
	}
	l := some(2, 100)
	for _, a := range l {
		for _, b := range l[1:] {
			if b > 0 {
				checkDiv(t, a, b)
			}
		}
	}
}

// P3.1, and rule 2: by 0 nothing is divided: ErrArg, noughts beside it.
func TestByNothing(t *testing.T) {
	for _, a := range some(3, 20) {
		if q, r, e := poly.Div(a, 0); q != 0 || r != 0 || e != api.ErrArg {
			t.Error("Div", a, q, r, e)
		}
		for _, b := range []poly.Poly{0, 1, a, most} {
			if p, e := poly.MulMod(a, b, 0); p != 0 || e != api.ErrArg {
				t.Error("MulMod", a, b, p, e)
			}
		}
	}
}

// P3.1: MulMod, against the product's rest, modulo polynomials of all degrees.
func TestMulMod(t *testing.T) {
	l := some(4, 30)
	for d := range 64 {
		for _, m := range []poly.Poly{1 << d, poly.Poly(1)<<d | l[13+d%17]&(1<<d-1), 1<<d | (1<<d - 1)} {
			for _, a := range l {
				for _, b := range l[len(l)/2:] {
					want := product(a, b).rest(m)
					if got, e := poly.MulMod(a, b, m); got != want || e != api.OK {
						t.Fatalf("MulMod(%x, %x, %x) = %x, %d, not %x", a, b, m, got, e, want)
					}
					if got, e := poly.MulMod(b, a, m); got != want || e != api.OK {
						t.Fatalf("MulMod(%x, %x, %x) = %x, %d, not %x", b, a, m, got, e, want)
					}
				}
			}
		}
	}
	if got, e := poly.MulMod(most, most, 1); got != 0 || e != api.OK {
		t.Error("modulo 1:", got, e)
	}
}

func divides(a, b poly.Poly) bool {
	return product(b, 1).rest(a) == 0
}

// P3.1: Gcd of two: the greatest of all that divide both.
func TestGcdSmall(t *testing.T) {
	if got := poly.Gcd(5, 3); got != 3 {
		t.Error(got)
	}
	for a := range poly.Poly(48) {
		for b := range poly.Poly(48) {
			want := max(a, b) // of 0 and another one
			if a > 0 && b > 0 {
				for want = min(a, b); !divides(want, a) || !divides(want, b); want-- {
				}
			}
			if got := poly.Gcd(a, b); got != want {
				t.Errorf("Gcd(%d, %d) = %d, not %d", a, b, got, want)
			}
		}
	}
}

// P3.1: Gcd of any count; those that are 0 don't count.
func TestGcdOfMany(t *testing.T) {
	for i, x := range []struct {
		l    []poly.Poly
		want poly.Poly
	}{
		{nil, 0},
		{[]poly.Poly{0}, 0},
		{[]poly.Poly{0, 0, 0}, 0},
		{[]poly.Poly{6}, 6},
		{[]poly.Poly{most}, most},
		{[]poly.Poly{0, 6, 0}, 6},
		{[]poly.Poly{0, 1}, 1},
		{[]poly.Poly{6, 6, 6}, 6},
		{[]poly.Poly{2, 4, 8, 1 << 63}, 2},
		{[]poly.Poly{1 << 63, 8, 4}, 4},
		// x(x+1), x(x^2+x+1), (x+1)(x^2+x+1): two and two have a factor, all three have none.
		{[]poly.Poly{6, 14}, 2},
		{[]poly.Poly{14, 9}, 7},
		{[]poly.Poly{6, 9}, 3},
		{[]poly.Poly{6, 14, 9}, 1},
		{[]poly.Poly{1, 0, most}, 1},
	} {
		if got := poly.Gcd(x.l...); got != x.want {
			t.Errorf("%d: %x", i, got)
		}
	}
}

// P3.1: Gcd of great ones: a common factor is found, in whatever order they come.
func TestGcdGreat(t *testing.T) {
	const factor = 1<<31 | 1<<3 | 1 // a prime
	_, a := poly.Mul(factor, 1<<32|0x8d)
	_, b := poly.Mul(factor, 2)
	_, c := poly.Mul(factor, 1<<20|1<<3|1)
	for i, l := range [][]poly.Poly{{a, b, c}, {c, b, a}, {b, 0, a}, {factor, a}, {a, c, 0, 0}} {
		if got := poly.Gcd(l...); got != factor {
			t.Errorf("%d: %x", i, got)
		}
	}
}

// P3.1: Prime: all that have few coefficients, against all products.
func TestPrimeSmall(t *testing.T) {
	const all = 1 << 12
	var made [all]bool
	for a := poly.Poly(2); a < all/2; a++ {
		for b := a; b.Deg()+a.Deg() < 12; b++ {
			made[product(a, b).half(0)] = true
		}
	}
	for p := range poly.Poly(all) {
		if got, want := p.Prime(), p >= 2 && !made[p]; got != want {
			t.Errorf("%d: %v", p, got)
		}
	}
}

// P3.1: Prime of great ones: known primes of low weight, and the document's.
func TestPrimeGreat(t *testing.T) {
	for _, p := range []poly.Poly{
		2, 3, 7, 11, 13, 0x11b, 0x3da3358b4dc173,
		1<<31 | 1<<3 | 1, 1<<32 | 0x8d, 1<<60 | 3, 1<<61 | 0x27, 1<<62 | 1<<29 | 1, 1<<63 | 3,
	} {
		if !p.Prime() {
			t.Errorf("%x is prime", p)
		}
	}
	for _, p := range []poly.Poly{0, 1, 4, 5, 6, 9, 1 << 63, most, 1<<63 | 1, 0x3da3358b4dc172, 1<<63 | 2} {
		if p.Prime() {
			t.Errorf("%x isn't prime", p)
		}
	}
}

// P3.1: no product is prime, of factors of whatever degree; the smallest may have half the product's.
func TestPrimeOfProducts(t *testing.T) {
	primes := []poly.Poly{2, 3, 7, 0x11b, 1<<20 | 1<<3 | 1, 1<<31 | 1<<3 | 1, 1<<32 | 0x8d, 1<<60 | 3, 1<<61 | 0x27, 1<<62 | 1<<29 | 1}
	for _, a := range primes {
		for _, b := range primes {
			if a.Deg()+b.Deg() > 63 {
				continue
			}
			if p := product(a, b).half(0); p.Prime() {
				t.Errorf("%x times %x is no prime", a, b)
			}
		}
	}
}

// Rule 4: the lists stay as they are, their spare room too.
func TestNothingIsChanged(t *testing.T) {
	room := some(5, 40)
	was := some(5, 40)
	for n := range 12 {
		poly.Add(room[:n]...)
		poly.Gcd(room[:n]...)
	}
	for i, p := range room {
		if p != was[i] {
			t.Error("changed", i)
		}
	}
}
