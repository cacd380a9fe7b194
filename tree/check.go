package tree

import (
	"hypogeum/api"
	"hypogeum/node"
)

// check goes through items till one is found that may not be.
type check struct {
	left int // how many items more there may be
}

// mayHave: may a directory have these items, that deep?
func (c *check) mayHave(l []api.Item, depth int) bool {
	c.left -= len(l)
	if c.left < 0 || depth > api.MaxDepth && len(l) > 0 {
		return false
	}
	names := make(map[string]struct{}, len(l))
	for _, x := range l {
		if !inForm(x) || !c.mayHave(x.Kids, depth+1) {
			return false
		}
		names[x.Name] = struct{}{}
	}
	return len(names) == len(l)
}

// inForm: is it as an item of its kind is, whatever its items are?
func inForm(x api.Item) bool {
	// What a node of it needs, too, is asked there.
	n := node.Node{Name: x.Name, Kind: x.Kind, Mode: x.Mode, Time: x.Time}
	fits := false
	switch x.Kind {
	case api.File:
		fits = len(x.Data) <= api.MaxFile && len(x.Kids) == 0
	case api.Dir:
		fits = x.Data == ""
	case api.Link:
		n.Target = x.Data
		fits = len(x.Kids) == 0
	}
	return fits && node.Check(n) == api.OK
}
