package key

import (
	"hypogeum/api"
	"hypogeum/cell"
)

// Pen seals with nonces off a tape.
type Pen struct {
	Ring
	*cell.Tape
}

// Write: parts, sealed as of a kind, for a name.
func (p Pen) Write(kind byte, name string, parts ...[]byte) ([]byte, api.Errno) {
	// The nonce is used up also where nothing is sealed. (A tape that is none tells noughts.)
	return p.Seal(kind, name, p.Nonce(), parts...)
}

// Proof: what a word's keys seal, so that it can be told.
func (p Pen) Proof() ([]byte, api.Errno) {
	return p.Write(proofKind, proofName, p.Name[:])
}
