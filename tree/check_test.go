package tree_test

import (
	"fmt"
	"math"
	"strings"
	"testing"

	"hypogeum/api"
	"hypogeum/tree"
)

// checkEverywhere: may a directory have it, as the only one, among others, and further down?
func checkEverywhere(t *testing.T, what string, want api.Errno, x api.Item) {
	t.Helper()
	checkCheck(t, what, want, x)
	checkCheck(t, what+", the first", want, x, file("zz", "z"))
	checkCheck(t, what+", the last", want, file("zz", "z"), dir("zy", link("a", "b")), x)
	checkCheck(t, what+", in a directory", want, file("zz", "z"), dir("d", dir("e", file("zz", ""), x)))
}

// P15.1: names.
func TestCheckNames(t *testing.T) {
	long := strings.Repeat("n", 255)
	for _, name := range []string{"a", "...", "..a", " ", "é", "\xff", "\n", long, "-", "A b"} {
		for _, x := range []api.Item{file(name, "x"), dir(name), link(name, "x")} {
			checkEverywhere(t, fmt.Sprintf("%q", name), api.OK, x)
		}
	}
	for _, name := range []string{"", ".", "..", "/", "a/b", "/a", "a/", "\x00", "a\x00b", long + "n"} {
		for _, x := range []api.Item{file(name, "x"), dir(name), link(name, "x")} {
			checkEverywhere(t, fmt.Sprintf("%q", name), api.ErrInvalid, x)
		}
	}
}

// P15.1: no two of a directory have one name, whatever they are.
func TestCheckTwice(t *testing.T) {
	for _, x := range []api.Item{file("a", "1"), dir("a"), link("a", "b")} {
		for _, y := range []api.Item{file("a", "1"), file("a", "2"), dir("a", file("b", "")), link("a", "c")} {
			checkCheck(t, "two", api.ErrInvalid, x, y)
			checkCheck(t, "two, apart", api.ErrInvalid, x, file("b", ""), dir("c"), y)
			checkCheck(t, "two, below", api.ErrInvalid, dir("d", x, file("b", ""), y))
		}
	}
	checkCheck(t, "in two directories", api.OK, file("a", ""), dir("d", file("a", "")), dir("e", file("a", ""), dir("d")))
	checkCheck(t, "its directory's", api.OK, dir("a", dir("a", dir("a", file("a", "")))))
	checkCheck(t, "great and small letters", api.OK, file("a", ""), file("A", ""))
}

// P15.1: numbers, at their edges.
func TestCheckNumbers(t *testing.T) {
	type number struct {
		n    int
		want api.Errno
	}
	modes := []number{{0, api.OK}, {4095, api.OK}, {-1, api.ErrInvalid}, {4096, api.ErrInvalid}, {math.MinInt, api.ErrInvalid}, {math.MaxInt, api.ErrInvalid}}
	times := []number{{0, api.OK}, {1 << 40, api.OK}, {-1, api.ErrInvalid}, {1<<40 + 1, api.ErrInvalid}, {math.MinInt, api.ErrInvalid}, {math.MaxInt, api.ErrInvalid}}
	for _, x := range []api.Item{file("a", "x"), dir("a", file("b", "")), link("a", "x")} {
		for _, m := range modes {
			x := x
			x.Mode = m.n
			checkEverywhere(t, fmt.Sprint("Mode ", m.n), m.want, x)
		}
		for _, m := range times {
			x := x
			x.Time = m.n
			checkEverywhere(t, fmt.Sprint("Time ", m.n), m.want, x)
		}
	}
	for _, kind := range []int{-1, 3, math.MinInt, math.MaxInt, 256, 1 << 32} {
		for _, x := range []api.Item{file("a", "x"), dir("a"), dir("a", file("b", "")), link("a", "x")} {
			x.Kind = kind
			checkEverywhere(t, fmt.Sprint("Kind ", kind), api.ErrInvalid, x)
		}
	}
}

// P15.1: bytes, and items, as each kind has them.
func TestCheckData(t *testing.T) {
	most := strings.Repeat("x", 1<<20)
	checkEverywhere(t, "no bytes", api.OK, file("a", ""))
	checkEverywhere(t, "most bytes", api.OK, file("a", most))
	checkEverywhere(t, "more bytes", api.ErrInvalid, file("a", most+"x"))
	checkEverywhere(t, "a directory's bytes", api.ErrInvalid, api.Item{Name: "a", Kind: api.Dir, Data: "x"})
	checkEverywhere(t, "a link to nothing", api.ErrInvalid, link("a", ""))
	checkEverywhere(t, "a link", api.OK, link("a", "x"))
	checkEverywhere(t, "any bytes", api.OK, link("a", "/\x00.."))
	checkEverywhere(t, "the longest link", api.OK, link("a", most[:4095]))
	checkEverywhere(t, "a longer link", api.ErrInvalid, link("a", most[:4096]))
	for _, x := range []api.Item{file("a", ""), file("a", "x"), link("a", "x")} {
		x.Kids = []api.Item{}
		checkEverywhere(t, "an empty list", api.OK, x)
		x.Kids = []api.Item{file("b", "")}
		checkEverywhere(t, "items", api.ErrInvalid, x)
	}
}

// P15.1: how many items there may be, in one directory or in many.
func TestCheckCount(t *testing.T) {
	checkCheck(t, "none", api.OK)
	checkCheck(t, "2000", api.OK, flat(2000)...)
	checkCheck(t, "2001", api.ErrInvalid, flat(2001)...)
	checkCheck(t, "5000", api.ErrInvalid, flat(5000)...)
	checkCheck(t, "1999 below", api.OK, dir("d", flat(1999)...))
	checkCheck(t, "2000 below", api.ErrInvalid, dir("d", flat(2000)...))
	spread := func(last int) []api.Item { // 40 directories of 49 items
		var l []api.Item
		for i := range 39 {
			l = append(l, dir(fmt.Sprint(i), flat(49)...))
		}
		return append(l, dir("last", dir("below", flat(last)...)))
	}
	checkCheck(t, "2000 in many", api.OK, spread(48)...)
	checkCheck(t, "2001 in many", api.ErrInvalid, spread(49)...)
}

// P15.1: how deep they may be.
func TestCheckDepth(t *testing.T) {
	checkCheck(t, "64", api.OK, chain(64))
	checkCheck(t, "65", api.ErrInvalid, chain(65))
	checkCheck(t, "64 and others", api.OK, file("a", ""), chain(64), file("z", ""))
	checkCheck(t, "65 and others", api.ErrInvalid, file("a", ""), chain(65), file("z", ""))
	checkCheck(t, "a file 64 deep", api.OK, in(63, file("f", "x")))
	checkCheck(t, "a file 65 deep", api.ErrInvalid, in(64, file("f", "x")))
	checkCheck(t, "3000", api.ErrInvalid, chain(3000))
}

// in: an item in so many directories.
func in(n int, x api.Item) api.Item {
	for range n {
		x = dir("d", x)
	}
	return x
}

// P1: items that have themselves: Check ends, and so does all else, where they are one by one.
func TestItemsInThemselves(t *testing.T) {
	two := []api.Item{dir("a"), dir("b")}
	two[0].Kids, two[1].Kids = two, two
	checkCheck(t, "two", api.ErrInvalid, two...)
	one := []api.Item{{Name: "a", Data: "x"}}
	one[0].Kids = one
	checkCheck(t, "one", api.ErrInvalid, one...)
	if n, size := tree.Count(one...); n != 1000 || size != 1000 {
		t.Error("Count", n, size)
	}
	if n := len(lones(tree.Sort(one...))); n != 1000 {
		t.Error("Sort", n)
	}
	if n := len(tree.Rows(one...)); n != 1000 {
		t.Error("Rows", n)
	}
	if !tree.Same(one, one) {
		t.Error("Same")
	}
	path := strings.Repeat("a/", 999) + "a"
	if x, e := tree.Find(path, one...); e != api.OK || x.Name != "a" || len(x.Kids) != 0 {
		t.Error("Find", x.Name, len(x.Kids), e)
	}
	if _, e := tree.Find(path+"/a", one...); e != api.ErrMiss {
		t.Error("Find, deeper", e)
	}
}
