package repo

import (
	"slices"

	"hypogeum/api"
	"hypogeum/cell"
	"hypogeum/cut"
	"hypogeum/glyph"
	"hypogeum/key"
)

// Where the config lies, and its glyph's kind.
const (
	configName = "config"
	configKind = 0x63
)

// What a config may have.
const (
	mostWord   = 1000
	mostSteps  = 100000
	mostClient = 99
	mostTarget = 800000
)

const saltSize = 16

// inForm: is it a config? Of its Steps nothing is asked.
func (c Config) inForm() bool {
	_, e := cut.New(c.Rule)
	return len(c.Word) >= 1 && len(c.Word) <= mostWord &&
		c.Client >= 0 && c.Client <= mostClient &&
		c.Target >= 1 && c.Target <= mostTarget && e == api.OK
}

func isSteps(n int) bool {
	return n >= 0 && n <= mostSteps
}

// made: the pen of a new config, and the bytes of its object.
func (c Config) made(t *cell.Tape) (key.Pen, []byte, api.Errno) {
	salt := t.Next(saltSize)
	r, e := key.Make([]byte(c.Word), salt, c.Steps)
	if e != api.OK {
		return key.Pen{}, nil, e
	}
	p := key.Pen{Ring: r, Tape: t}
	proof, e := p.Proof()
	if e != api.OK {
		return key.Pen{}, nil, e
	}
	b, e := glyph.Begin(configKind).Raw(salt).Num(c.Steps).Text(string(proof)).Bytes()
	if e != api.OK {
		return key.Pen{}, nil, e
	}
	return p, b, api.OK
}

// fit: the ring of the word, if it is that by which the object with these bytes was made.
func (c Config) fit(b []byte) (key.Ring, api.Errno) {
	in := glyph.Open(configKind, b)
	salt, steps, proof := in.Raw(saltSize), in.Num(mostSteps), in.Text(api.MaxText)
	if in.End() != api.OK {
		return key.Ring{}, api.ErrCorrupt
	}
	r, e := key.Fit([]byte(c.Word), salt, steps, []byte(proof))
	if e != api.OK {
		return key.Ring{}, api.ErrCorrupt
	}
	return r, api.OK
}

// isWhole: is there all that one works with?
func (s Site) isWhole() bool {
	return s.Shelf != nil && s.Cell != nil && s.Clock != nil
}

// isNew: were no backups kept there yet?
func (s Site) isNew() api.Errno {
	_, there := s.Get(configName)
	n, e := s.Read()
	switch {
	case there == api.OK, e == api.OK && n != 0:
		return api.ErrThere
	case there != api.ErrMiss:
		return there
	}
	return e
}

// tape: one that nobody had who began there ahead of the last record or change.
func (s Site) tape() (*cell.Tape, api.Errno) {
	n, e := s.Read()
	if e != api.OK {
		return nil, e
	}
	return cell.Wind(slices.Concat(s.Begin, eightBytes(n), eightBytes(s.Steps()))), api.OK
}

// eightBytes: those of a number, the highest first.
func eightBytes(n int) []byte {
	b := make([]byte, 8)
	for i := range b {
		b[i] = byte(n >> (8 * (len(b) - 1 - i)))
	}
	return b
}
