package cell

import (
	"bytes"

	"hypogeum/sum"
)

// mostNext is how many bytes are told at a time, at most.
const mostNext = 1 << 20

// Tape is numbers that look like chance, of a beginning.
type Tape struct {
	begin []byte
	told  int // how many of its bytes
}

// Wind: a tape.
func Wind(begin []byte) *Tape {
	return &Tape{begin: bytes.Clone(begin)}
}

// Next: so many bytes more of it.
func (t *Tape) Next(n int) []byte {
	if t == nil || n < 1 {
		return nil
	}
	n = min(n, mostNext)
	b := make([]byte, 0, n)
	for len(b) < n {
		row := t.row(t.told / sum.Size)
		rest := row[t.told%sum.Size:]
		rest = rest[:min(len(rest), n-len(b))]
		b = append(b, rest...)
		t.told += len(rest)
	}
	return b
}

// Nonce: sixteen bytes more.
func (t *Tape) Nonce() [16]byte {
	var x [16]byte
	copy(x[:], t.Next(len(x))) // none come of a nil tape
	return x
}

// row: its bytes are such sums, one behind the other.
func (t *Tape) row(count int) [sum.Size]byte {
	var b [8]byte
	for i := range b {
		b[i] = byte(count >> (8 * (len(b) - 1 - i)))
	}
	return sum.Of(t.begin, b[:])
}
