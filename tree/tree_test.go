package tree_test

import (
	"math/rand"
	"reflect"
	"slices"
	"strings"
	"testing"

	"hypogeum/api"
	"hypogeum/tree"
)

// P15.1: the document's examples.
func TestExamples(t *testing.T) {
	d := dir("d", file("f", "abc"))
	if got := tree.Rows(d); !slices.Equal(got, []tree.Row{{Path: "d", Kind: 1, Size: 0}, {Path: "d/f", Kind: 0, Size: 3}}) {
		t.Error(got)
	}
	if x, e := tree.Find("d/f", d); e != api.OK || !reflect.DeepEqual(x, file("f", "abc")) {
		t.Error(x, e)
	}
	if names, e := tree.Split("a//b"); names != nil || e != api.ErrName {
		t.Error(names, e)
	}
}

// P15.1: Count: all items, and the bytes of files alone.
func TestCount(t *testing.T) {
	for _, l := range many() {
		items, size := 0, 0
		for _, x := range lones(l) {
			items++
			if x.item.Kind == api.File {
				size += len(x.item.Data)
			}
		}
		if n, m := tree.Count(l...); n != items || m != size {
			t.Errorf("Count: %d, %d, not %d, %d of %v", n, m, items, size, l)
		}
	}
	if n, m := tree.Count(file("a", "xyz"), link("b", "abc"), dir("c", file("d", "1234")), api.Item{Kind: 3, Data: "12345"}); n != 5 || m != 7 {
		t.Error(n, m)
	}
}

// P15.1: Sort: by names, byte by byte, in all directories; those of one name as they stood.
func TestSort(t *testing.T) {
	for _, l := range many() {
		if got := tree.Sort(l...); !alike(lones(got), inOrder(l)) {
			t.Errorf("Sort of %v: %v", l, got)
		}
	}
	l := tree.Sort(file("é", ""), file("b", ""), file("a!", ""), file("a", ""), file("", ""), file("B", ""), file("aa", ""), file("a/", ""))
	var names []string
	for _, x := range l {
		names = append(names, x.Name)
	}
	if !slices.Equal(names, []string{"", "B", "a", "a!", "a/", "aa", "b", "é"}) {
		t.Errorf("%q", names)
	}
	var same []api.Item
	for i := range 50 {
		same = append(same, api.Item{Name: string(rune('a' + i%2)), Mode: i})
	}
	for i, x := range tree.Sort(same...) {
		if x.Mode != 2*(i%25)+i/25 {
			t.Error("one name:", i, x.Mode)
		}
	}
}

// P15.1: Rows: all that Sort has, each directory right ahead of its items.
func TestRows(t *testing.T) {
	for _, l := range many() {
		var want []tree.Row
		for _, x := range inOrder(l) {
			want = append(want, tree.Row{Path: strings.Join(x.names, "/"), Kind: x.item.Kind, Size: len(x.item.Data)})
		}
		if got := tree.Rows(l...); !slices.Equal(got, want) {
			t.Errorf("Rows of %v: %v", l, got)
		}
	}
	// A directory's items come ahead of what rises between the directory's name and theirs.
	got := tree.Rows(file("a!", "1"), dir("a", file("b", "12")), link("a.b", "123"))
	if want := []tree.Row{{Path: "a", Kind: 1}, {Path: "a/b", Size: 2}, {Path: "a!", Size: 1}, {Path: "a.b", Kind: 2, Size: 3}}; !slices.Equal(got, want) {
		t.Error(got)
	}
}

// P15.1: Same: whatever the order is; all of each item.
func TestSame(t *testing.T) {
	chance := rand.New(rand.NewSource(2))
	for range 300 {
		l := some(chance, 4)
		other := shuffled(chance, l)
		if !tree.Same(l, other) || !tree.Same(other, l) {
			t.Errorf("not the same: %v, %v", l, other)
		}
	}
	for _, l := range many() {
		for _, m := range [][]api.Item{copyOf(l), tree.Sort(l...)} {
			if !tree.Same(l, m) {
				t.Errorf("not the same: %v, %v", l, m)
			}
		}
	}
	if !tree.Same(nil, []api.Item{}) || !tree.Same([]api.Item{{Name: "a", Kids: []api.Item{}}}, []api.Item{{Name: "a"}}) {
		t.Error("nil and empty")
	}
}

// unlike: items that differ from those in one thing each.
func unlike(l []api.Item) [][]api.Item {
	var all [][]api.Item
	for i := range l {
		add := func(x api.Item) {
			all = append(all, slices.Concat(l[:i], []api.Item{x}, l[i+1:]))
		}
		x := l[i]
		x.Name += "x"
		add(x)
		x = l[i]
		x.Kind++
		add(x)
		x = l[i]
		x.Mode--
		add(x)
		x = l[i]
		x.Time++
		add(x)
		x = l[i]
		x.Data += "x"
		add(x)
		x = l[i]
		x.Kids = append(slices.Clone(x.Kids), file("zzz", ""))
		add(x)
		for _, kids := range unlike(l[i].Kids) {
			x.Kids = kids
			add(x)
		}
		all = append(all, slices.Concat(l[:i], l[i+1:]))
	}
	return append(all, append(slices.Clone(l), file("zzz", "")))
}

// P15.1: Same: one thing that differs, wherever it is, is seen.
func TestUnlike(t *testing.T) {
	for _, l := range many()[:80] {
		for _, m := range unlike(l) {
			if tree.Same(l, m) || tree.Same(m, l) {
				t.Errorf("the same: %v, %v", l, m)
			}
		}
	}
	a, b := file("a", "1"), file("a", "2")
	if tree.Same([]api.Item{a, b}, []api.Item{b, a}) || !tree.Same([]api.Item{a, b}, []api.Item{a, b}) {
		t.Error("of one name: as they stand")
	}
	if tree.Same([]api.Item{a, a}, []api.Item{a}) {
		t.Error("twice")
	}
}

// P15.1: Split: names between slashes.
func TestSplit(t *testing.T) {
	long := strings.Repeat("n", 255)
	for path, want := range map[string][]string{
		"": nil, "a": {"a"}, "a/b": {"a", "b"}, "...": {"..."}, "a/.b/c ": {"a", ".b", "c "}, long + "/" + long: {long, long}, "é/\xff": {"é", "\xff"},
	} {
		if names, e := tree.Split(path); !slices.Equal(names, want) || e != api.OK {
			t.Errorf("Split(%q): %q, %d", path, names, e)
		}
	}
	for _, path := range []string{"/", "//", "/a", "a/", "a//b", ".", "..", "./a", "a/..", "a/./b", "a\x00", "a/\x00/b", long + "n", "a/" + long + "n"} {
		if names, e := tree.Split(path); names != nil || e != api.ErrName {
			t.Errorf("Split(%q): %q, %d", path, names, e)
		}
		if x, e := tree.Find(path, dir("a", file("b", "")), file("", ""), file(".", "")); !reflect.ValueOf(x).IsZero() || e != api.ErrName {
			t.Errorf("Find(%q): %v, %d", path, x, e)
		}
	}
}

// P15.1: Find: each item of a tree is found by its path, whole.
func TestFind(t *testing.T) {
	chance := rand.New(rand.NewSource(3))
	for range 200 {
		l := some(chance, 4)
		for _, x := range lones(l) {
			path := strings.Join(x.names, "/")
			y, e := tree.Find(path, l...)
			kids := l
			for _, i := range x.places[:len(x.places)-1] {
				kids = kids[i].Kids
			}
			if want := kids[x.places[len(x.places)-1]]; e != api.OK || !tree.Same([]api.Item{y}, []api.Item{want}) {
				t.Errorf("Find(%q) in %v: %v, %d", path, l, y, e)
			}
			for _, wrong := range []string{path + "/none", path + "x", "none/" + path} {
				if y, e := tree.Find(wrong, l...); !reflect.ValueOf(y).IsZero() || e != api.ErrMiss {
					t.Errorf("Find(%q) in %v: %v, %d", wrong, l, y, e)
				}
			}
		}
	}
}

// P15.1: of "": a directory without a name, with the items as they stand.
func TestFindAll(t *testing.T) {
	for _, l := range many() {
		x, e := tree.Find("", l...)
		if e != api.OK || !alike(lones(x.Kids), lones(l)) {
			t.Errorf("Find of nothing in %v: %v, %d", l, x, e)
		}
		x.Kids = nil
		if !reflect.DeepEqual(x, api.Item{Kind: api.Dir}) {
			t.Error(x)
		}
	}
}

// P15.1: of several of one name the first, on the way, too; an item of any kind that has items is gone through.
func TestFindOdd(t *testing.T) {
	l := []api.Item{
		file("a", "first"), dir("a", file("b", "")), dir("c", file("d", "1"), file("d", "2")), dir("c", file("e", "")),
		{Name: "f", Kind: api.File, Data: "f", Kids: []api.Item{file("g", "in a file")}}, {Name: "l", Kind: 9, Kids: []api.Item{{Name: "m", Kind: api.Link, Kids: []api.Item{link("n", "o")}}}},
	}
	for path, want := range map[string]string{"a": "first", "c/d": "1", "f": "f", "f/g": "in a file", "l/m/n": "o"} {
		if x, e := tree.Find(path, l...); x.Data != want || e != api.OK {
			t.Errorf("Find(%q): %v, %d", path, x, e)
		}
	}
	for _, path := range []string{"a/b", "c/e", "f/g/h", "l/n"} {
		if x, e := tree.Find(path, l...); !reflect.ValueOf(x).IsZero() || e != api.ErrMiss {
			t.Errorf("Find(%q): %v, %d", path, x, e)
		}
	}
	if x, e := tree.Find("f", l...); len(x.Kids) != 1 || e != api.OK {
		t.Error("a file's items", x, e)
	}
}

// P15.1: what is more than 1000 deep isn't there.
func TestDeep(t *testing.T) {
	for _, n := range []int{999, 1000, 1001, 1002, 1500} {
		deep, there := []api.Item{in(n-1, file("f", "123"))}, min(n, 1000)
		size := 0
		if n <= 1000 {
			size = 3
		}
		if got, bytes := tree.Count(deep...); got != there || bytes != size {
			t.Error("Count", n, got, bytes)
		}
		if got := len(lones(tree.Sort(deep...))); got != there {
			t.Error("Sort", n, got)
		}
		if got := tree.Rows(deep...); len(got) != there || len(got[there-1].Path) != 2*there-1 {
			t.Error("Rows", n, len(got))
		}
		if got := tree.Same(deep, []api.Item{in(n-1, file("f", "124"))}); got != (n > 1000) {
			t.Error("Same", n, got)
		}
		path := strings.Repeat("d/", n-1) + "f"
		if _, e := tree.Find(path, deep...); (e == api.OK) != (n <= 1000) || e != api.OK && e != api.ErrMiss {
			t.Error("Find", n, e)
		}
		for at := 0; at <= min(n-1, 1000); at += 250 {
			x, e := tree.Find(strings.TrimSuffix(strings.Repeat("d/", at), "/"), deep...)
			if got, _ := tree.Count(x.Kids...); got != there-at || e != api.OK {
				t.Error("Find", n, at, got, e)
			}
		}
	}
	if got := tree.Sort(in(1500, file("f", ""))); !tree.Same(got, []api.Item{in(999, dir("d"))}) {
		t.Error("Sort of 1500")
	}
}

// spoil: all of the items is other than it was, in the spare room, too.
func spoil(l []api.Item) {
	l = l[:cap(l)]
	for i := range l {
		spoil(l[i].Kids)
		l[i] = file("spoilt", "spoilt")
	}
}

// P15.2: what is handed in isn't changed, its spare room neither; an answer is new memory.
func TestNothingIsChangedOrShared(t *testing.T) {
	chance := rand.New(rand.NewSource(4))
	for range 100 {
		room := shuffled(chance, append(some(chance, 3), dir("zz", file("b", ""), file("a", "")), file("aa", "")))
		room = append(room, file("spare", "1"), file("room", "2"))
		was := copyOf(room)
		l := room[:len(room)-2]
		sorted := tree.Sort(l...)
		found, e := tree.Find("zz", l...)
		all, _ := tree.Find("", l...)
		tree.Check(l...)
		tree.Count(l...)
		tree.Rows(l...)
		tree.Same(l, sorted)
		if e != api.OK || !reflect.DeepEqual(room, was) {
			t.Fatal("changed", e)
		}
		want := copyOf(sorted)
		spoil(all.Kids)
		spoil(found.Kids)
		if !reflect.DeepEqual(room, was) || !reflect.DeepEqual(sorted, want) {
			t.Fatal("Find shares memory")
		}
		spoil(sorted)
		if !reflect.DeepEqual(room, was) {
			t.Fatal("Sort shares memory")
		}
	}
}

// P15.2: no two lists of one answer share memory, where those that were handed in do.
func TestListsApart(t *testing.T) {
	kids := []api.Item{file("b", ""), file("a", "")}
	l := []api.Item{dir("x", kids...), dir("y", kids...)}
	for what, got := range map[string][]api.Item{"Sort": tree.Sort(l...), "Find": found(t, l)} {
		spoil(got[0].Kids)
		if got[1].Kids[0].Name == "spoilt" || kids[0].Name == "spoilt" {
			t.Error(what)
		}
	}
}

func found(t *testing.T, l []api.Item) []api.Item {
	x, e := tree.Find("", l...)
	checkErrno(t, "Find", e, api.OK)
	return x.Kids
}
