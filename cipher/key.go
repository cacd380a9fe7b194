package cipher

import (
	"math/bits"

	"hypogeum/api"
)

const (
	keySize = 32
	rounds  = 14 // FIPS 197: of a key of 32 bytes
)

// Key is a key that is made ready. (One that Make didn't make is all noughts, and so is all that it turns.)
type Key struct {
	box   [256]byte                // what each byte is swapped for
	words [4 * (rounds + 1)]uint32 // four for each round, and four ahead of them
}

// Make: of 32 bytes.
func Make(b []byte) (*Key, api.Errno) {
	if len(b) != keySize {
		return nil, api.ErrArg
	}
	k := &Key{box: swaps()}
	for i := range keySize / 4 {
		k.words[i] = word(b[4*i], b[4*i+1], b[4*i+2], b[4*i+3])
	}
	once := uint32(1) << 24
	for i := keySize / 4; i < len(k.words); i++ {
		w := k.words[i-1]
		switch i % 8 {
		case 0:
			w = bits.RotateLeft32(w, 8)
			w = k.pick(w, w, w, w) ^ once
			once <<= 1
		case 4:
			w = k.pick(w, w, w, w)
		}
		k.words[i] = k.words[i-8] ^ w
	}
	return k, api.OK
}

// Turn: a block, turned by the key.
func (k *Key) Turn(b [16]byte) [16]byte {
	if k == nil {
		return [16]byte{}
	}
	var s [4]uint32
	for i := range s {
		s[i] = word(b[4*i], b[4*i+1], b[4*i+2], b[4*i+3]) ^ k.words[i]
	}
	// Four names in place of a list: Go's compiler keeps these in registers, which is faster.
	p, q, r, t := s[0], s[1], s[2], s[3]
	for at := 4; at < 4*rounds; at += 4 {
		w := k.words[at : at+4]
		p, q, r, t = mix(k.pick(p, q, r, t))^w[0], mix(k.pick(q, r, t, p))^w[1], mix(k.pick(r, t, p, q))^w[2], mix(k.pick(t, p, q, r))^w[3]
	}
	s = [4]uint32{k.pick(p, q, r, t), k.pick(q, r, t, p), k.pick(r, t, p, q), k.pick(t, p, q, r)}
	for i, w := range s {
		w ^= k.words[4*rounds+i]
		b[4*i], b[4*i+1], b[4*i+2], b[4*i+3] = byte(w>>24), byte(w>>16), byte(w>>8), byte(w)
	}
	return b
}

// pick: the first byte of the first word, the second of the second, and so on, each swapped: so the rows are shifted.
func (k *Key) pick(a, b, c, d uint32) uint32 {
	return word(k.box[byte(a>>24)], k.box[byte(b>>16)], k.box[byte(c>>8)], k.box[byte(d)])
}

// block: the one of that count in the row of blocks that begins with the number.
func (k *Key) block(number [16]byte, count int) [16]byte {
	carry := uint64(count)
	for i := len(number) - 1; i >= 0; i-- {
		carry += uint64(number[i])
		number[i] = byte(carry)
		carry >>= 8
	}
	return k.Turn(number)
}

// mix: the bytes of a column are mixed, all four at a time.
func mix(w uint32) uint32 {
	twice := (w&0x7f7f7f7f)<<1 ^ (w>>7&0x01010101)*0x1b
	return twice ^ bits.RotateLeft32(twice^w, 8) ^ bits.RotateLeft32(w, 16) ^ bits.RotateLeft32(w, 24)
}

// swaps: what each byte is swapped for. It is made by its rule (FIPS 197), which is shorter than the table.
func swaps() [256]byte {
	box := [256]byte{0x63}
	// x goes through all bytes but 0, times 3 each time; y goes by 3 each time, so that x times y stays 1.
	x, y := byte(1), byte(1)
	for range 255 {
		x ^= x<<1 ^ (x>>7)*0x1b
		y ^= y << 1
		y ^= y << 2
		y ^= y << 4
		y ^= (y >> 7) * 0x09
		box[x] = 0x63 ^ y ^ bits.RotateLeft8(y, 1) ^ bits.RotateLeft8(y, 2) ^ bits.RotateLeft8(y, 3) ^ bits.RotateLeft8(y, 4)
	}
	return box
}

// word: four bytes, the first one highest.
func word(a, b, c, d byte) uint32 {
	return uint32(a)<<24 | uint32(b)<<16 | uint32(c)<<8 | uint32(d)
}
