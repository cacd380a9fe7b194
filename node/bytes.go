package node

import (
	"slices"

	"hypogeum/api"
	"hypogeum/glyph"
)

const (
	kind   = 0x6e
	idSize = len(api.Id{})
)

// Encode: a directory's items, as bytes.
func Encode(l ...Node) ([]byte, api.Errno) {
	if e := checkAll(l); e != api.OK {
		return nil, e
	}
	o := glyph.Begin(kind).Num(len(l))
	for _, n := range l {
		n.write(o)
	}
	return o.Bytes()
}

// Decode: of bytes.
func Decode(b []byte) ([]Node, api.Errno) {
	i := glyph.Open(kind, b)
	var l []Node
	for range i.Num(api.MaxItems) {
		n := read(i)
		if i.Err() != api.OK {
			break
		}
		l = append(l, n)
	}
	if i.End() != api.OK || checkAll(l) != api.OK {
		return nil, api.ErrForm
	}
	return l, api.OK
}

// checkAll: may they be a directory's items?
func checkAll(l []Node) api.Errno {
	if len(l) > api.MaxItems {
		return api.ErrBig
	}
	for _, n := range l {
		if e := Check(n); e != api.OK {
			return e
		}
	}
	for i := 1; i < len(l); i++ {
		if l[i].Name <= l[i-1].Name {
			return api.ErrForm
		}
	}
	return api.OK
}

// write: a node that is in form.
func (n Node) write(o *glyph.Out) {
	o.Text(n.Name).Num(n.Kind, n.Mode, n.Time)
	switch n.Kind {
	case api.File:
		o.Num(n.Size, len(n.Parts))
		for _, p := range n.Parts {
			o.Raw(p[:])
		}
	case api.Dir:
		o.Raw(n.Tree[:])
	case api.Link:
		o.Text(n.Target)
	}
}

// read: the next node; whether it is in form is looked at later.
func read(i *glyph.In) Node {
	n := Node{Name: i.Text(api.MaxName), Kind: i.Num(api.Link), Mode: i.Num(mostMode), Time: i.Num(mostTime)}
	switch n.Kind {
	case api.File:
		n.Size = i.Num(api.MaxFile)
		n.Parts = readIds(i, i.Num(n.Size))
	case api.Dir:
		copy(n.Tree[:], i.Raw(idSize))
	case api.Link:
		n.Target = i.Text(mostTarget)
	}
	return n
}

// readIds: the next ones, so many; none, if there aren't so many.
func readIds(i *glyph.In, count int) []api.Id {
	// All at once: so a count that the bytes don't bear out takes no room.
	b := i.Raw(count * idSize)
	l := make([]api.Id, 0, len(b)/idSize)
	for id := range slices.Chunk(b, idSize) {
		l = append(l, api.Id(id))
	}
	return l
}
