package tree_test

import (
	"fmt"
	"math/rand"
	"slices"
	"strings"
	"testing"

	"hypogeum/api"
	"hypogeum/tree"
)

func file(name, data string) api.Item {
	return api.Item{Name: name, Kind: api.File, Mode: 0o644, Time: 7, Data: data}
}

func dir(name string, kids ...api.Item) api.Item {
	return api.Item{Name: name, Kind: api.Dir, Mode: 0o755, Time: 8, Kids: kids}
}

func link(name, aim string) api.Item {
	return api.Item{Name: name, Kind: api.Link, Mode: 0o777, Time: 9, Data: aim}
}

// chain: an item in an item in an item .., so many deep.
func chain(depth int) api.Item {
	x := dir("end")
	for range depth - 1 {
		x = dir("d", x)
	}
	return x
}

// flat: so many files in one directory.
func flat(n int) []api.Item {
	var l []api.Item
	for i := range n {
		l = append(l, file(fmt.Sprintf("f%05d", i), "x"))
	}
	return l
}

// lone is an item without what it has, and where it stands: the names from the first directory on, each with its place among all of that directory.
type lone struct {
	names  []string
	places []int
	item   api.Item
}

// lones: all items that are at most 1000 deep, as they stand.
func lones(l []api.Item) []lone {
	var all []lone
	var walk func(ahead lone, l []api.Item)
	walk = func(ahead lone, l []api.Item) {
		for i, x := range l {
			y := lone{append(slices.Clone(ahead.names), x.Name), append(slices.Clone(ahead.places), i), x}
			y.item.Kids = nil
			if all = append(all, y); len(y.names) < 1000 {
				walk(y, x.Kids)
			}
		}
	}
	walk(lone{}, l)
	return all
}

// before: does a stand ahead of b in the order of Sort?
func before(a, b lone) int {
	for i := range min(len(a.names), len(b.names)) {
		if c := strings.Compare(a.names[i], b.names[i]); c != 0 {
			return c
		}
		if a.places[i] != b.places[i] {
			return a.places[i] - b.places[i]
		}
	}
	return len(a.names) - len(b.names)
}

// inOrder: all items in the order of Sort.
func inOrder(l []api.Item) []lone {
	all := lones(l)
	slices.SortFunc(all, before)
	return all
}

// alike: are these the same items in the same order? (Places count no longer.)
func alike(a, b []lone) bool {
	return slices.EqualFunc(a, b, func(x, y lone) bool {
		return slices.Equal(x.names, y.names) && x.item.Kind == y.item.Kind && x.item.Mode == y.item.Mode && x.item.Time == y.item.Time && x.item.Data == y.item.Data
	})
}

// copyOf: the same items.
func copyOf(l []api.Item) []api.Item {
	c := slices.Clone(l)
	for i := range c {
		c[i].Kids = copyOf(c[i].Kids)
	}
	return c
}

// shuffled: the same items in another order, in all directories.
func shuffled(chance *rand.Rand, l []api.Item) []api.Item {
	c := slices.Clone(l)
	chance.Shuffle(len(c), func(i, j int) { c[i], c[j] = c[j], c[i] })
	for i := range c {
		c[i].Kids = shuffled(chance, c[i].Kids)
	}
	return c
}

// some: items that a directory may have, some levels of them.
func some(chance *rand.Rand, levels int) []api.Item {
	var l []api.Item
	for i := range chance.Intn(6) {
		name := strings.Repeat(string(rune('a'+chance.Intn(26))), 1+chance.Intn(3)) + string(rune('0'+i))
		switch x := chance.Intn(4); {
		case x == 0:
			l = append(l, link(name, strings.Repeat("t", 1+chance.Intn(5))))
		case x == 1 || levels == 1:
			l = append(l, file(name, strings.Repeat("b", chance.Intn(20))))
		default:
			l = append(l, dir(name, some(chance, levels-1)...))
		}
	}
	return l
}

// odd: items that a directory may have or not: of all kinds, with names that are none, and the same ones.
func odd(chance *rand.Rand, levels int) []api.Item {
	if levels == 0 {
		return nil
	}
	names := []string{"a", "b", "c", "", ".", "a/b", "/", "\x00", "é", "a\xff"}
	var l []api.Item
	for range chance.Intn(5) {
		l = append(l, api.Item{
			Name: names[chance.Intn(len(names))], Kind: chance.Intn(6) - 2, Mode: chance.Int() - chance.Int(), Time: chance.Int() - chance.Int(),
			Data: strings.Repeat("d", chance.Intn(4)), Kids: odd(chance, levels-1),
		})
	}
	return l
}

// many: items of both kinds, the same ones each time.
func many() [][]api.Item {
	chance := rand.New(rand.NewSource(1))
	l := [][]api.Item{nil, {}, {file("a", "")}, {dir("a")}, {dir("b", dir("c"), file("d", "x"))}}
	for range 300 {
		l = append(l, some(chance, 1+chance.Intn(5)), odd(chance, 1+chance.Intn(5)))
	}
	return l
}

func checkErrno(t *testing.T, what string, e, want api.Errno) {
	t.Helper()
	if e != want {
		t.Errorf("%s: %d, not %d", what, e, want)
	}
}

func checkCheck(t *testing.T, what string, want api.Errno, l ...api.Item) {
	t.Helper()
	checkErrno(t, what, tree.Check(l...), want)
}
