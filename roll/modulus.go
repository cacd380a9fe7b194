package roll

import "hypogeum/poly"

// A modulus has these degrees: so a sum has a whole byte of upper bits, and room.
const (
	leastDegree = 8
	mostDegree  = 63
)

// products are those of each byte by one polynomial, modulo another.
type products [256]poly.Poly

// productsBy: by a, modulo m, which isn't 0.
func productsBy(a, m poly.Poly) products {
	var p products
	for i := range p {
		// A byte of many bits is a sum of bytes of one: so few products have to be made.
		lowest := i & -i
		if i == lowest {
			p[i], _ = poly.MulMod(poly.Poly(i), a, m)
		} else {
			p[i] = poly.Add(p[lowest], p[i^lowest])
		}
	}
	return p
}

// modulus is a polynomial that was made ready: a sum goes on by it a byte at a time, not bit by bit.
type modulus struct {
	degree int
	above  products // what a sum's upper byte leaves when it is moved above the degree
}

// fits: may it be a modulus?
func fits(m poly.Poly) bool {
	return m.Deg() >= leastDegree && m.Deg() <= mostDegree
}

// ready: m fits.
func ready(m poly.Poly) modulus {
	return modulus{degree: m.Deg(), above: productsBy(1<<m.Deg(), m)}
}

// on: a sum's bytes and one more.
func (m *modulus) on(sum poly.Poly, b byte) poly.Poly {
	low := m.degree - 8
	upper := byte(sum >> low)
	lower := sum & (1<<low - 1)
	return poly.Add(lower<<8, poly.Poly(b), m.above[upper])
}
