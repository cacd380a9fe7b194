package mount

import (
	"hypogeum/api"
	"hypogeum/node"
	"hypogeum/save"
)

// nodes: those of a directory.
func (m *Mount) nodes(id api.Id) ([]node.Node, api.Errno) {
	return read(m, func(s save.Saver) ([]node.Node, api.Errno) { return s.Dir(id) })
}

// bytes: some of a file's.
func (m *Mount) bytes(n node.Node, at, count int) ([]byte, api.Errno) {
	return read(m, func(s save.Saver) ([]byte, api.Errno) { return s.Bytes(n, at, count) })
}

// read: what a saver tells. A Prune may have laid into other packs what the snapshot needs: so what isn't told is asked once more,
// of a saver of now.
func read[T any](m *Mount, ask func(save.Saver) ([]T, api.Errno)) ([]T, api.Errno) {
	l, e := ask(m.Saver)
	if e != api.ErrCorrupt {
		return l, e
	}
	s, _, e := m.hand.Saver()
	if e != api.OK {
		return nil, e
	}
	if l, e = ask(s); e == api.OK {
		m.Saver = s // not beside an error: it may know less than the elder one
	}
	return l, e
}
