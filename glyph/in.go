package glyph

import (
	"bytes"

	"hypogeum/api"
)

// In gives them back.
type In struct {
	rest  []byte
	fault api.Errno // the first one: nothing is given behind it
}

// Open: of a thing of a kind.
func Open(kind byte, b []byte) *In {
	head := []byte{first, second, kind}
	if rest, ok := bytes.CutPrefix(b, head); ok {
		// A copy: who has b may change it ahead of the next call.
		return &In{rest: bytes.Clone(rest)}
	}
	if bytes.HasPrefix(head, b) {
		return &In{fault: api.ErrTail}
	}
	return &In{fault: api.ErrForm}
}

// gives: does it give what comes next?
func (i *In) gives() bool {
	return i != nil && i.fault == api.OK
}

// take: the next n bytes; they are still the reader's own. None, if there aren't so many.
func (i *In) take(n int) []byte {
	switch {
	case !i.gives():
		return nil
	case n < 0:
		i.fault = api.ErrArg
		return nil
	case n > len(i.rest):
		i.fault = api.ErrTail
		return nil
	}
	b := i.rest[:n]
	i.rest = i.rest[n:]
	return b
}

// Num, Text, Flag, Raw: the next one; a number's and a text's bound; how many bytes.
func (i *In) Num(most int) int {
	if !i.gives() {
		return 0
	}
	n, size, e := number(i.rest)
	if e == api.OK && n > most {
		e = api.ErrBig
	}
	if e != api.OK {
		i.fault = e
		return 0
	}
	i.take(size)
	return n
}

func (i *In) Text(most int) string {
	n := i.Num(min(most, api.MaxText))
	return string(i.take(n))
}

func (i *In) Flag() bool {
	b := i.take(1)
	if len(b) == 0 {
		return false
	}
	if b[0] > 1 {
		i.fault = api.ErrForm
		return false
	}
	return b[0] == 1
}

func (i *In) Raw(n int) []byte {
	return bytes.Clone(i.take(n))
}

// Err: the first error.
func (i *In) Err() api.Errno {
	if i == nil {
		return api.ErrArg
	}
	return i.fault
}

// End: is it all?
func (i *In) End() api.Errno {
	if i.gives() && len(i.rest) > 0 {
		i.fault = api.ErrForm
	}
	return i.Err()
}

// number: the one that b begins with, and how many bytes it has.
func number(b []byte) (int, int, api.Errno) {
	n := 0
	for i, x := range b[:min(len(b), mostBytes)] {
		n |= int(x%more) << (perByte * i)
		if x >= more {
			continue
		}
		if x == 0 && i > 0 || n > mostNum {
			return 0, 0, api.ErrForm
		}
		return n, i + 1, api.OK
	}
	if len(b) < mostBytes {
		return 0, 0, api.ErrTail
	}
	return 0, 0, api.ErrForm
}
