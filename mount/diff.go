package mount

import (
	"slices"
	"strings"

	"hypogeum/api"
	"hypogeum/node"
)

// Diff: what stands in one and not in the other, or otherwise.
func Diff(a, b *Mount) ([]string, api.Errno) {
	if !a.isOpen() || !b.isOpen() {
		return nil, api.ErrArg
	}
	d := diff{a: side{a, api.MaxItems}, b: side{b, api.MaxItems}}
	if e := d.items("", pair{a.top(), b.top()}, 1); e != api.OK {
		return nil, e
	}
	// They don't rise by themselves: d-e comes behind d, and ahead of what is in d.
	slices.Sort(d.paths)
	return d.paths, api.OK
}

// pair is what stands in both trees in one place; where nothing stands, the node is empty.
type pair struct {
	a, b node.Node
}

// diff goes through two trees at a time.
type diff struct {
	a, b  side
	paths []string
}

// items: the paths of what differs below a pair, so deep; they begin so.
func (d *diff) items(begin string, p pair, depth int) api.Errno {
	if p.a.Kind == p.b.Kind && p.a.Tree == p.b.Tree {
		return api.OK // directories of one name have the same items; and nothing else has items
	}
	l, e := d.a.items(p.a, depth)
	if e != api.OK {
		return e
	}
	k, e := d.b.items(p.b, depth)
	if e != api.OK {
		return e
	}
	for _, p := range pairs(l, k) {
		path := begin + max(p.a.Name, p.b.Name)
		if !p.isSame() {
			d.paths = append(d.paths, path)
		}
		if e := d.items(below(path), p, depth+1); e != api.OK {
			return e
		}
	}
	return api.OK
}

// side is one of both trees.
type side struct {
	*Mount
	left int // how many items more it may have
}

// items: those of a node, so deep; but a directory nothing has any.
func (s *side) items(n node.Node, depth int) ([]node.Node, api.Errno) {
	if n.Kind != api.Dir {
		return nil, api.OK
	}
	l, e := s.nodes(n.Tree)
	if e != api.OK {
		return nil, e
	}
	// A tree that was saved hasn't more. Directories that somebody who has the keys made may come to a great many items,
	// if they name one another.
	s.left -= len(l)
	if s.left < 0 || depth > api.MaxDepth && len(l) > 0 {
		return nil, api.ErrCorrupt
	}
	return l, api.OK
}

// pairs: of the nodes of two directories, both by their names, those that have one name.
func pairs(l, k []node.Node) []pair {
	var all []pair
	for len(l)+len(k) > 0 {
		var p pair
		order := compare(l, k)
		if order <= 0 {
			p.a, l = l[0], l[1:]
		}
		if order >= 0 {
			p.b, k = k[0], k[1:]
		}
		all = append(all, p)
	}
	return all
}

// compare: which one's first node comes first? (One of both has one.)
func compare(l, k []node.Node) int {
	switch {
	case len(k) == 0:
		return -1
	case len(l) == 0:
		return 1
	}
	return strings.Compare(l[0].Name, k[0].Name)
}

// isSame: does the same stand in both, but for a directory's items?
func (p pair) isSame() bool {
	a, b := p.a, p.b
	return a.Name == b.Name && a.Kind == b.Kind && a.Mode == b.Mode && a.Time == b.Time && a.Target == b.Target && slices.Equal(a.Parts, b.Parts)
}
