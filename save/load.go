package save

import (
	"hypogeum/api"
	"hypogeum/node"
)

// Dir: a directory's nodes.
func (s Saver) Dir(id api.Id) ([]node.Node, api.Errno) {
	b, e := s.get(dir, id)
	if e != api.OK {
		return nil, e
	}
	l, e := node.Decode(b)
	if e != api.OK {
		return nil, api.ErrCorrupt
	}
	return l, api.OK
}

// get: a blob that has to be there.
func (s Saver) get(kind int, id api.Id) ([]byte, api.Errno) {
	b, e := s.Get(kind, id)
	if e == api.ErrMiss {
		return nil, api.ErrCorrupt
	}
	return b, e
}

// Bytes: a file's bytes, from a place on, so many at most.
func (s Saver) Bytes(n node.Node, at, count int) ([]byte, api.Errno) {
	if s.Vault == nil || node.Check(n) != api.OK || n.Kind != api.File || at < 0 {
		return nil, api.ErrArg
	}
	if at >= n.Size || count < 1 {
		return nil, api.OK
	}
	// Held against what is left: the sum of both may be no int.
	end := at + min(count, n.Size-at)
	var b []byte
	size := 0 // of the pieces that were read
	for _, id := range n.Parts {
		if size > end || size == end && end < n.Size {
			break
		}
		p, e := s.get(piece, id)
		if e != api.OK {
			return nil, e
		}
		if len(p) == 0 {
			return nil, api.ErrCorrupt
		}
		b = append(b, p[within(at-size, p):within(end-size, p)]...)
		size += len(p)
	}
	if end == n.Size && size != n.Size {
		return nil, api.ErrCorrupt
	}
	return b, api.OK
}

// within: a place of bytes, the nearest one.
func within(at int, b []byte) int {
	return min(max(at, 0), len(b))
}

// Load: the tree of a name.
func (s Saver) Load(id api.Id) ([]api.Item, api.Errno) {
	l := loading{s, api.MaxItems}
	return l.items(id, 1)
}

// loading is the loading of one tree.
type loading struct {
	Saver
	left int // how many items more there may be
}

// items: those of a directory, that deep, and all that is below.
func (l *loading) items(id api.Id, depth int) ([]api.Item, api.Errno) {
	nodes, e := l.Dir(id)
	if e != api.OK {
		return nil, e
	}
	// Asked on the way, not by tree.Check at the end: directories that name one another may come to a great many items.
	// What else tree.Check asks holds of all nodes that are decoded.
	l.left -= len(nodes)
	if l.left < 0 || depth > api.MaxDepth && len(nodes) > 0 {
		return nil, api.ErrCorrupt
	}
	var items []api.Item
	for _, n := range nodes {
		x, e := l.item(n, depth)
		if e != api.OK {
			return nil, e
		}
		items = append(items, x)
	}
	return items, api.OK
}

// item: a node's, that deep.
func (l *loading) item(n node.Node, depth int) (api.Item, api.Errno) {
	x := api.Item{Name: n.Name, Kind: n.Kind, Mode: n.Mode, Time: n.Time}
	e := api.OK
	switch n.Kind {
	case api.File:
		var b []byte
		b, e = l.Bytes(n, 0, n.Size)
		x.Data = string(b)
	case api.Dir:
		x.Kids, e = l.items(n.Tree, depth+1)
	case api.Link:
		x.Data = n.Target
	}
	return x, e
}
