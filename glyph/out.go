package glyph

import (
	"bytes"

	"hypogeum/api"
)

// Out takes numbers and texts; what it has taken is bytes.
type Out struct {
	taken []byte
	fault api.Errno // the first one: nothing is taken behind it
}

// Begin: the bytes of a thing of a kind.
func Begin(kind byte) *Out {
	return &Out{taken: []byte{first, second, kind}}
}

// takes: does it take what comes?
func (o *Out) takes() bool {
	return o != nil && o.fault == api.OK
}

// Num, Text, Flag, Raw: numbers; texts; yes or no; bytes as they are: one behind the other.
func (o *Out) Num(l ...int) *Out {
	for _, n := range l {
		o.number(n)
	}
	return o
}

func (o *Out) Text(l ...string) *Out {
	for _, s := range l {
		o.text(s)
	}
	return o
}

func (o *Out) Flag(l ...bool) *Out {
	for _, yes := range l {
		if yes {
			o.number(1)
		} else {
			o.number(0)
		}
	}
	return o
}

func (o *Out) Raw(l ...[]byte) *Out {
	if !o.takes() {
		return o
	}
	for _, b := range l {
		o.taken = append(o.taken, b...)
	}
	return o
}

// number: one.
func (o *Out) number(n int) {
	if !o.takes() {
		return
	}
	if n < 0 || n > mostNum {
		o.fault = api.ErrArg
		return
	}
	for ; n >= more; n >>= perByte {
		o.taken = append(o.taken, byte(n)|more)
	}
	o.taken = append(o.taken, byte(n))
}

// text: one.
func (o *Out) text(s string) {
	if !o.takes() {
		return
	}
	if len(s) > api.MaxText {
		o.fault = api.ErrBig
		return
	}
	o.number(len(s))
	o.taken = append(o.taken, s...)
}

// Bytes: all of them.
func (o *Out) Bytes() ([]byte, api.Errno) {
	if o == nil {
		return nil, api.ErrArg
	}
	if o.fault != api.OK {
		return nil, o.fault
	}
	return bytes.Clone(o.taken), api.OK
}
