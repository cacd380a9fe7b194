package index_test

import (
	"math/rand"
	"slices"
	"strings"
	"testing"

	"hypogeum/index"
)

// named: a file that counts only by its name and its Old; its packs tell it from others.
func named(name string, mark int, old ...string) index.Named {
	return index.Named{Name: name, File: index.File{Packs: packs(1+mark, 1), Old: old}}
}

func checkLive(t *testing.T, l, want []index.Named) {
	t.Helper()
	got := index.Live(l...)
	if !slices.EqualFunc(got, want, func(a, b index.Named) bool { return a.Name == b.Name && alike(a.File, b.File) }) {
		t.Errorf("Live: %v, not %v", got, want)
	}
}

// P13.1: the document's example, and others: what one of all has in Old isn't live, the last ones rise by their names.
func TestLive(t *testing.T) {
	a, b, c := named("a", 0), named("b", 1, "a"), named("c", 2)
	checkLive(t, nil, nil)
	checkLive(t, []index.Named{a}, []index.Named{a})
	checkLive(t, []index.Named{a, b}, []index.Named{b})
	checkLive(t, []index.Named{b, a}, []index.Named{b})
	checkLive(t, []index.Named{c, b, a}, []index.Named{b, c})
	checkLive(t, []index.Named{b}, []index.Named{b})
	checkLive(t, []index.Named{c, a}, []index.Named{a, c})
	checkLive(t, []index.Named{named("é", 0), named("aa", 0), named("", 0), named("a", 0), named("Z", 0)},
		[]index.Named{named("", 0), named("Z", 0), named("a", 0), named("aa", 0), named("é", 0)})
}

// P13.1: also a file that isn't live itself says what counts no longer; one that names itself isn't live; all may go.
func TestLiveChains(t *testing.T) {
	a, b, c := named("a", 0), named("b", 1, "a"), named("c", 2, "b")
	checkLive(t, []index.Named{a, b, c}, []index.Named{c})
	checkLive(t, []index.Named{c, a, b}, []index.Named{c})
	checkLive(t, []index.Named{a, c}, []index.Named{a, c})
	checkLive(t, []index.Named{named("a", 0, "a")}, nil)
	checkLive(t, []index.Named{named("a", 0, "b"), named("b", 0, "a")}, nil)
	checkLive(t, []index.Named{named("a", 0, "b", "none"), named("b", 0), named("c", 0)}, []index.Named{named("a", 0, "b", "none"), c0()})
}

func c0() index.Named { return named("c", 0) }

// P13.1: each name once: the first of a name; but what any of that name says of others counts.
func TestLiveTwice(t *testing.T) {
	checkLive(t, []index.Named{named("a", 0), named("a", 1)}, []index.Named{named("a", 0)})
	checkLive(t, []index.Named{named("b", 3), named("a", 1), named("b", 0), named("a", 0), named("b", 1)}, []index.Named{named("a", 1), named("b", 3)})
	checkLive(t, []index.Named{named("a", 0), named("b", 0), named("a", 1, "b")}, []index.Named{named("a", 0)})
	checkLive(t, []index.Named{named("a", 0), named("a", 1, "a")}, nil)
}

// P13.1: Live of many, by its words.
func TestLiveOfMany(t *testing.T) {
	chance := rand.New(rand.NewSource(4))
	for range 200 {
		var l []index.Named
		for range chance.Intn(12) {
			n := named(numbered("x/", chance.Intn(15)), chance.Intn(3))
			for range chance.Intn(3) {
				n.Old = append(n.Old, numbered("x/", chance.Intn(25)))
			}
			l = append(l, n)
		}
		var want []index.Named
		for i, n := range l {
			old := slices.ContainsFunc(l, func(m index.Named) bool { return slices.Contains(m.Old, n.Name) })
			first := !slices.ContainsFunc(l[:i], func(m index.Named) bool { return m.Name == n.Name })
			if first && !old {
				want = append(want, n)
			}
		}
		slices.SortFunc(want, func(a, b index.Named) int { return strings.Compare(a.Name, b.Name) })
		checkLive(t, l, want)
	}
}

// P13.4: Live changes and keeps nothing, and answers new memory.
func TestLiveKeepsNothing(t *testing.T) {
	make3 := func() []index.Named {
		return []index.Named{named("c", 2, "y", "z"), named("b", 1, "d"), named("a", 2)}
	}
	l := make3()
	got := index.Live(l...)
	for i, n := range make3() {
		if l[i].Name != n.Name || !alike(l[i].File, n.File) {
			t.Error("changed", i)
		}
	}
	for _, n := range l {
		spoil(n.File)
	}
	for i, n := range got {
		if want := make3()[2-i]; n.Name != want.Name || !alike(n.File, want.File) {
			t.Error("shares memory", i)
		}
	}
	checkApart(t, slices.Concat(got[0].Packs, got[1].Packs, got[2].Packs))
}
