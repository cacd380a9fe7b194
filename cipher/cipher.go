// Package cipher is layer 2: bytes that are hidden by a key and a number: see shared/doc/02-cipher.md.
package cipher

import (
	"slices"

	"hypogeum/api"
)

// mostPlace is as far as a flow may be sought.
const mostPlace = 1 << 40

// Flow is a row of bytes that a key and a number make; it has the key's calls, too.
type Flow struct {
	*Key
	number [16]byte
	place  int
}

// Begin: the flow of a key and a number.
func Begin(k *Key, number [16]byte) (*Flow, api.Errno) {
	if k == nil {
		return nil, api.ErrArg
	}
	return &Flow{Key: k, number: number}, api.OK
}

// Turn: as its key does. (Go finds the key's own call, too, but not from a nil flow: that would panic.)
func (f *Flow) Turn(b [16]byte) [16]byte {
	if f == nil {
		return [16]byte{}
	}
	return f.Key.Turn(b)
}

// Hide: parts, one behind the other, put together with the flow's next bytes.
func (f *Flow) Hide(parts ...[]byte) []byte {
	if f == nil {
		return nil
	}
	out := slices.Concat(parts...)
	var block [16]byte
	for i := range out {
		at := f.place % 16
		// The key is the flow's for all to see, so it may be another one by now: no block is kept from call to call.
		if i == 0 || at == 0 {
			block = f.block(f.number, f.place/16)
		}
		out[i] ^= block[at]
		f.place++
	}
	return out
}

// At: how many of its bytes are used; Seek: from such a one on.
func (f *Flow) At() int {
	if f == nil {
		return 0
	}
	return f.place
}

func (f *Flow) Seek(at int) api.Errno {
	if f == nil || at < 0 || at > mostPlace {
		return api.ErrArg
	}
	f.place = at
	return api.OK
}
