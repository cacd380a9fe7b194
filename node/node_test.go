package node_test

import (
	"math"
	"reflect"
	"strings"
	"testing"

	"hypogeum/api"
	"hypogeum/node"
)

// id: one that is unlike the others.
func id(n int) api.Id {
	return api.Id{byte(n >> 16), byte(n >> 8), byte(n), 0xff, 31: 1}
}

func ids(n int) []api.Id {
	var l []api.Id
	for i := range n {
		l = append(l, id(i))
	}
	return l
}

// A file, a directory and a link that are in form.
func file() node.Node {
	return node.Node{Name: "file", Kind: api.File, Mode: 0o644, Time: 1000, Size: 700, Parts: ids(3)}
}

func dir() node.Node {
	return node.Node{Name: "dir", Kind: api.Dir, Mode: 0o755, Time: 2000, Tree: id(77)}
}

func link() node.Node {
	return node.Node{Name: "link", Kind: api.Link, Mode: 0o777, Time: 3000, Target: "../some/where"}
}

// but: a node with a change.
func but(n node.Node, change func(n *node.Node)) node.Node {
	change(&n)
	return n
}

// names: those that may be, and those that mayn't.
func names() ([]string, []string) {
	yes := []string{"a", "...", ".a", "a.", "..a", " ", "-", "a\\b", "\x01", "\xff", "\x7f", "é", "\xff\xfe/"[:2], strings.Repeat("a", 254), strings.Repeat("a", 255), strings.Repeat(".", 255), strings.Repeat("\xff", 255)}
	no := []string{"", ".", "..", "/", "a/", "/a", "a/b", "./", "../a", "\x00", "a\x00", "\x00a", "a\x00b", "\xff/", "\xe3/\x81", "\xe3\x81\x00", strings.Repeat("a", 256), strings.Repeat("é", 128), strings.Repeat("a", 254) + "/", strings.Repeat("a", 254) + "\x00", strings.Repeat("a", 100000)}
	return yes, no
}

// P7.1: IsName, and Check, which tells by ErrName what is none.
func TestNames(t *testing.T) {
	yes, no := names()
	for _, s := range yes {
		if !node.IsName(s) {
			t.Errorf("%q is a name", s)
		}
		if e := node.Check(but(dir(), func(n *node.Node) { n.Name = s })); e != api.OK {
			t.Errorf("Check of %q: %d", s, e)
		}
	}
	for _, s := range no {
		if node.IsName(s) {
			t.Errorf("%q is no name", s)
		}
		if e := node.Check(but(dir(), func(n *node.Node) { n.Name = s })); e != api.ErrName {
			t.Errorf("Check of %q: %d", s, e)
		}
	}
}

// P7.1: each byte but a slash and 0 may be in a name, wherever.
func TestNamesOfAllBytes(t *testing.T) {
	for x := range 256 {
		b := string([]byte{byte(x)})
		for _, s := range []string{b + "ab", "a" + b + "b", "ab" + b, b, strings.Repeat("a", 20) + b} {
			if got, want := node.IsName(s), x != '/' && x != 0 && s != "."; got != want {
				t.Errorf("IsName(%q) = %v", s, got)
			}
		}
	}
}

// fits: nodes that are in form, at all edges.
func fits() []node.Node {
	var l []node.Node
	for _, n := range []node.Node{file(), dir(), link()} {
		for _, x := range []int{0, 1, 4095} {
			l = append(l, but(n, func(n *node.Node) { n.Mode = x }))
		}
		for _, x := range []int{0, 1, 1 << 40} {
			l = append(l, but(n, func(n *node.Node) { n.Time = x }))
		}
		l = append(l, but(n, func(n *node.Node) { n.Name = strings.Repeat("\xff", 255) }))
	}
	for _, x := range [][2]int{{0, 0}, {1, 1}, {2, 1}, {2, 2}, {300, 300}, {1 << 20, 1}, {1 << 20, 200}, {1 << 20, 1 << 20}} {
		l = append(l, but(file(), func(n *node.Node) { n.Size, n.Parts = x[0], ids(x[1]) }))
	}
	return append(l,
		but(file(), func(n *node.Node) { n.Parts = make([]api.Id, 4) }),
		but(file(), func(n *node.Node) { n.Size, n.Parts = 0, []api.Id{} }),
		but(dir(), func(n *node.Node) { n.Tree = api.Id{} }),
		but(dir(), func(n *node.Node) { n.Parts = []api.Id{} }),
		but(link(), func(n *node.Node) { n.Target = "t" }),
		but(link(), func(n *node.Node) { n.Target = "\x00/." }),
		but(link(), func(n *node.Node) { n.Target = strings.Repeat("\xff", 4095) }),
		but(link(), func(n *node.Node) { n.Parts = []api.Id{} }),
	)
}

// faults: nodes with a name that aren't in form, by one step over an edge.
func faults() []node.Node {
	var l []node.Node
	for _, n := range []node.Node{file(), dir(), link()} {
		for _, x := range []int{-1, math.MinInt, 4096, math.MaxInt} {
			l = append(l, but(n, func(n *node.Node) { n.Mode = x }))
		}
		for _, x := range []int{-1, math.MinInt, 1<<40 + 1, math.MaxInt} {
			l = append(l, but(n, func(n *node.Node) { n.Time = x }))
		}
		for _, x := range []int{-1, math.MinInt, 3, math.MaxInt} {
			l = append(l, but(n, func(n *node.Node) { n.Kind = x }))
		}
	}
	for _, x := range [][2]int{{0, 1}, {1, 0}, {1, 2}, {2, 3}, {-1, 0}, {-1, 1}, {math.MinInt, 1}, {1<<20 + 1, 1}, {math.MaxInt, 1}, {1 << 20, 0}, {1 << 20, 1<<20 + 1}} {
		l = append(l, but(file(), func(n *node.Node) { n.Size, n.Parts = x[0], ids(x[1]) }))
	}
	for _, n := range []node.Node{dir(), link()} {
		l = append(l,
			but(n, func(n *node.Node) { n.Size = 1 }),
			but(n, func(n *node.Node) { n.Size = -1 }),
			but(n, func(n *node.Node) { n.Parts = ids(1) }),
			but(n, func(n *node.Node) { n.Size, n.Parts = 1, ids(1) }),
		)
	}
	for _, n := range []node.Node{file(), link()} {
		l = append(l,
			but(n, func(n *node.Node) { n.Tree = api.Id{0: 1} }),
			but(n, func(n *node.Node) { n.Tree = api.Id{31: 128} }),
		)
	}
	return append(l,
		but(file(), func(n *node.Node) { n.Target = "t" }),
		but(dir(), func(n *node.Node) { n.Target = "t" }),
		but(link(), func(n *node.Node) { n.Target = "" }),
		but(link(), func(n *node.Node) { n.Target = strings.Repeat("t", 4096) }),
	)
}

// P7.1: Check, at all edges.
func TestCheck(t *testing.T) {
	for i, n := range fits() {
		if e := node.Check(n); e != api.OK {
			t.Errorf("%d: kind %d, mode %d, time %d, size %d, %d parts: %d", i, n.Kind, n.Mode, n.Time, n.Size, len(n.Parts), e)
		}
	}
	for i, n := range faults() {
		if e := node.Check(n); e != api.ErrForm {
			t.Errorf("%d: kind %d, mode %d, time %d, size %d, %d parts: %d", i, n.Kind, n.Mode, n.Time, n.Size, len(n.Parts), e)
		}
		n.Name = "a/b"
		if e := node.Check(n); e != api.ErrName {
			t.Errorf("%d: a name that is none is told first, not %d", i, e)
		}
	}
	if e := node.Check(node.Node{}); e != api.ErrName {
		t.Error(e)
	}
}

func same(a, b node.Node) bool {
	if len(a.Parts) == 0 && len(b.Parts) == 0 {
		a.Parts, b.Parts = nil, nil
	}
	return reflect.DeepEqual(a, b)
}

// P7.1: Find: the first one of the name, whatever else it is.
func TestFind(t *testing.T) {
	second := but(link(), func(n *node.Node) { n.Name = "file" })
	broken := node.Node{Name: "a/b", Kind: 9, Parts: ids(2), Target: "t"}
	l := []node.Node{dir(), file(), second, broken, {}}
	for _, n := range []node.Node{dir(), file(), broken, {}} {
		if got, ok := node.Find(n.Name, l...); !ok || !same(got, n) {
			t.Errorf("Find(%q) = %v, %v", n.Name, got, ok)
		}
	}
	for _, s := range []string{"fil", "files", "File", "link", "a", "/", "ile"} {
		if got, ok := node.Find(s, l...); ok || !same(got, node.Node{}) {
			t.Errorf("Find(%q) = %v, %v", s, got, ok)
		}
	}
	for _, s := range []string{"", "a"} {
		if got, ok := node.Find(s); ok || !same(got, node.Node{}) {
			t.Errorf("Find(%q) of none = %v, %v", s, got, ok)
		}
	}
}

func checkIds(t *testing.T, got, want []api.Id) {
	t.Helper()
	if len(got)+len(want) > 0 && !reflect.DeepEqual(got, want) {
		t.Errorf("%v, not %v", got, want)
	}
}

// P7.1: Ids: of files the Parts, of directories the Trees, in their order, as often as they are there.
func TestIds(t *testing.T) {
	parts, trees := node.Ids()
	checkIds(t, parts, nil)
	checkIds(t, trees, nil)
	parts, trees = node.Ids(link(), but(file(), func(n *node.Node) { n.Size, n.Parts = 0, nil }))
	checkIds(t, parts, nil)
	checkIds(t, trees, nil)
	other := but(dir(), func(n *node.Node) { n.Tree = id(5) })
	parts, trees = node.Ids(file(), dir(), link(), but(file(), func(n *node.Node) { n.Parts = []api.Id{id(9), id(1), id(9)} }), other, dir())
	checkIds(t, parts, append(ids(3), id(9), id(1), id(9)))
	checkIds(t, trees, []api.Id{id(77), id(5), id(77)})
	// Of nodes that aren't in form, too, it is only what files and directories have.
	both := node.Node{Parts: ids(2), Tree: id(6)}
	of := func(kind int) node.Node { return but(both, func(n *node.Node) { n.Kind = kind }) }
	parts, trees = node.Ids(of(api.Link), of(api.Dir), of(api.File), of(3), of(-1))
	checkIds(t, parts, ids(2))
	checkIds(t, trees, []api.Id{id(6)})
}

// P7.3: what is handed in isn't changed, its spare room neither; answers share no memory with it.
func TestAnswersAreNew(t *testing.T) {
	room := ids(6)
	n := but(file(), func(n *node.Node) { n.Parts = room[:3] })
	l := []node.Node{n, n, dir(), link()}
	found, _ := node.Find("file", l[:2]...)
	parts, trees := node.Ids(l[:3]...)
	node.Check(n)
	if !reflect.DeepEqual(room, ids(6)) || !reflect.DeepEqual(l, []node.Node{n, n, dir(), link()}) {
		t.Error("changed")
	}
	for _, answer := range [][]api.Id{found.Parts, parts, trees} {
		answer = answer[:cap(answer)]
		for i := range answer {
			answer[i] = id(12345)
		}
	}
	if !reflect.DeepEqual(room, ids(6)) {
		t.Error("an answer shares memory")
	}
	found, _ = node.Find("file", l...)
	parts, trees = node.Ids(l...)
	clear(room)
	clear(l)
	checkIds(t, found.Parts, ids(3))
	checkIds(t, parts, append(ids(3), ids(3)...))
	checkIds(t, trees, []api.Id{id(77)})
}
