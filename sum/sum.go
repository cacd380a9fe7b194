// Package sum is layer 1: a sum of bytes, with a key and without: see shared/doc/01-sum.md.
package sum

import "strings"

// Size is how many bytes a sum has.
const Size = 32

// mostSteps is how far a word is stretched at most.
const mostSteps = 100000

// digits are those of a sum's text; great letters aren't among them.
const digits = "0123456789abcdef"

// Of: of parts, one behind the other.
func Of(parts ...[]byte) [Size]byte {
	r := run{words: start}
	for _, b := range parts {
		r.take(b)
	}
	return r.end()
}

// Keyed: a sum of parts that only who has the key can make.
func Keyed(key []byte, parts ...[]byte) [Size]byte {
	return ready(key).sum(parts...)
}

// Text: a sum, as digits.
func Text(s [Size]byte) string {
	var t [2 * Size]byte
	for i, x := range s {
		t[2*i], t[2*i+1] = digits[x>>4], digits[x&15]
	}
	return string(t[:])
}

// Read: a sum of digits; false: they are none.
func Read(s string) ([Size]byte, bool) {
	if len(s) != 2*Size {
		return [Size]byte{}, false
	}
	var x [Size]byte
	for i := range x {
		high, low := strings.IndexByte(digits, s[2*i]), strings.IndexByte(digits, s[2*i+1])
		if high < 0 || low < 0 {
			return [Size]byte{}, false
		}
		x[i] = byte(high<<4 | low)
	}
	return x, true
}

// Same: are all texts the same? In as many steps, whatever they are, if they have one length:
// so nobody learns from the time how far a mark that he made up is right.
func Same(first []byte, others ...[]byte) bool {
	var unlike byte
	for _, b := range others {
		if len(b) != len(first) {
			unlike = 1
			continue
		}
		for i, x := range b {
			unlike |= x ^ first[i]
		}
	}
	return unlike == 0
}

// Stretch: a key of a word, so many steps far.
func Stretch(word, salt []byte, steps int) [Size]byte {
	// The word is taken once: taken in each step, a long one would take for ever.
	k := ready(word)
	x := k.sum(salt)
	for range min(steps, mostSteps) {
		for i, y := range k.sum(x[:]) {
			x[i] ^= y
		}
	}
	return x
}
