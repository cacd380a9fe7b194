package tree

import (
	"slices"
	"strings"

	"hypogeum/api"
)

// The walks go so many levels down at most, theirs among them: what is deeper isn't there.

// count: how many items there are, and how many bytes of files.
func count(l []api.Item, levels int) (items, size int) {
	if levels == 0 {
		return 0, 0
	}
	for _, x := range l {
		below, bytes := count(x.Kids, levels-1)
		items += 1 + below
		size += bytes
		if x.Kind == api.File {
			size += len(x.Data)
		}
	}
	return items, size
}

// copied: the items, in memory of their own.
func copied(l []api.Item, levels int) []api.Item {
	if levels == 0 || len(l) == 0 {
		return nil
	}
	c := slices.Clone(l)
	for i := range c {
		c[i].Kids = copied(c[i].Kids, levels-1)
	}
	return c
}

// sortAll: in their own memory, and all that is below.
func sortAll(l []api.Item) {
	slices.SortStableFunc(l, func(a, b api.Item) int { return strings.Compare(a.Name, b.Name) })
	for _, x := range l {
		sortAll(x.Kids)
	}
}

// same: are items that stand in the same order the same?
func same(a, b []api.Item) bool {
	return slices.EqualFunc(a, b, func(x, y api.Item) bool {
		return x.Name == y.Name && x.Kind == y.Kind && x.Mode == y.Mode && x.Time == y.Time && x.Data == y.Data && same(x.Kids, y.Kids)
	})
}
