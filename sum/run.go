package sum

import "math/bits"

// blockSize is how many bytes are worked in at a time.
const blockSize = 64

// start is FIPS 180-4's first state.
var start = [8]uint32{
	0x6a09e667, 0xbb67ae85, 0x3c6ef372, 0xa54ff53a, 0x510e527f, 0x9b05688c, 0x1f83d9ab, 0x5be0cd19,
}

// rounds are FIPS 180-4's constants, one for each round.
var rounds = [64]uint32{
	0x428a2f98, 0x71374491, 0xb5c0fbcf, 0xe9b5dba5, 0x3956c25b, 0x59f111f1, 0x923f82a4, 0xab1c5ed5,
	0xd807aa98, 0x12835b01, 0x243185be, 0x550c7dc3, 0x72be5d74, 0x80deb1fe, 0x9bdc06a7, 0xc19bf174,
	0xe49b69c1, 0xefbe4786, 0x0fc19dc6, 0x240ca1cc, 0x2de92c6f, 0x4a7484aa, 0x5cb0a9dc, 0x76f988da,
	0x983e5152, 0xa831c66d, 0xb00327c8, 0xbf597fc7, 0xc6e00bf3, 0xd5a79147, 0x06ca6351, 0x14292967,
	0x27b70a85, 0x2e1b2138, 0x4d2c6dfc, 0x53380d13, 0x650a7354, 0x766a0abb, 0x81c2c92e, 0x92722c85,
	0xa2bfe8a1, 0xa81a664b, 0xc24b8b70, 0xc76c51a3, 0xd192e819, 0xd6990624, 0xf40e3585, 0x106aa070,
	0x19a4c116, 0x1e376c08, 0x2748774c, 0x34b0bcb5, 0x391c0cb3, 0x4ed8aa4a, 0x5b9cca4f, 0x682e6ff3,
	0x748f82ee, 0x78a5636f, 0x84c87814, 0x8cc70208, 0x90befffa, 0xa4506ceb, 0xbef9a3f7, 0xc67178f2,
}

// run is a sum under way: so parts needn't be copied together. A copy of it goes on by itself.
type run struct {
	words [8]uint32
	rest  [blockSize]byte // the bytes that don't fill a block yet
	count int             // all bytes that were taken
}

// take: bytes more.
func (r *run) take(b []byte) {
	have := r.count % blockSize
	r.count += len(b)
	if have > 0 {
		n := copy(r.rest[have:], b)
		if have+n < blockSize {
			return
		}
		r.work(r.rest[:])
		b = b[n:]
	}
	for ; len(b) >= blockSize; b = b[blockSize:] {
		r.work(b)
	}
	copy(r.rest[:], b)
}

// work: a block's bytes, the first ones of b, are worked in.
func (r *run) work(b []byte) {
	var w [64]uint32
	for i := range 16 {
		w[i] = uint32(b[4*i])<<24 | uint32(b[4*i+1])<<16 | uint32(b[4*i+2])<<8 | uint32(b[4*i+3])
	}
	for i := 16; i < len(w); i++ {
		x, y := w[i-15], w[i-2]
		x = right(x, 7) ^ right(x, 18) ^ x>>3
		y = right(y, 17) ^ right(y, 19) ^ y>>10
		w[i] = w[i-16] + x + w[i-7] + y
	}
	s := r.words
	a, b1, c, d, e, f, g, h := s[0], s[1], s[2], s[3], s[4], s[5], s[6], s[7]
	for i, x := range w {
		x += h + (right(e, 6) ^ right(e, 11) ^ right(e, 25)) + (e&f ^ ^e&g) + rounds[i]
		y := (right(a, 2) ^ right(a, 13) ^ right(a, 22)) + (a&b1 ^ a&c ^ b1&c)
		a, b1, c, d, e, f, g, h = x+y, a, b1, c, d+x, e, f, g
	}
	for i, x := range [8]uint32{a, b1, c, d, e, f, g, h} {
		r.words[i] += x
	}
}

// end: the sum of what was taken. (It ends a copy: the run itself may go on.)
func (r run) end() [Size]byte {
	size := uint64(r.count) * 8
	// A byte 80, noughts, and eight bytes with the count of bits: together they fill the last block.
	noughts := (2*blockSize - 9 - r.count%blockSize) % blockSize
	tail := [blockSize + 8]byte{0x80}
	for i := range 8 {
		tail[1+noughts+i] = byte(size >> (56 - 8*i))
	}
	r.take(tail[:1+noughts+8])
	var s [Size]byte
	for i, x := range r.words {
		s[4*i], s[4*i+1], s[4*i+2], s[4*i+3] = byte(x>>24), byte(x>>16), byte(x>>8), byte(x)
	}
	return s
}

// right: a word, turned to the right.
func right(x uint32, n int) uint32 {
	return bits.RotateLeft32(x, -n)
}

// keyed is a key that was taken already, as it begins both sums that RFC 2104 makes of it.
type keyed struct {
	inner, outer run
}

// ready: a key is taken.
func ready(key []byte) keyed {
	if len(key) > blockSize {
		s := Of(key)
		key = s[:]
	}
	var inner, outer [blockSize]byte
	copy(inner[:], key)
	copy(outer[:], key)
	for i := range blockSize {
		inner[i] ^= 0x36
		outer[i] ^= 0x5c
	}
	k := keyed{run{words: start}, run{words: start}}
	k.inner.take(inner[:])
	k.outer.take(outer[:])
	return k
}

// sum: of parts, by the key.
func (k keyed) sum(parts ...[]byte) [Size]byte {
	for _, b := range parts {
		k.inner.take(b)
	}
	s := k.inner.end()
	k.outer.take(s[:])
	return k.outer.end()
}
