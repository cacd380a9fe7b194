package node_test

import (
	"bytes"
	"math/rand"
	"reflect"
	"slices"
	"strconv"
	"strings"
	"testing"

	"hypogeum/api"
	"hypogeum/node"
)

// number: a number's bytes, by the document's words.
func number(n int) []byte {
	var b []byte
	for n > 127 {
		b = append(b, byte(128+n%128))
		n /= 128
	}
	return append(b, byte(n))
}

func text(s string) []byte {
	return append(number(len(s)), s...)
}

// head: that of so many items.
func head(count int) []byte {
	return append([]byte{0x48, 0x59, 0x6e}, number(count)...)
}

// body: an item's bytes, by the document's words.
func body(n node.Node) []byte {
	b := slices.Concat(text(n.Name), number(n.Kind), number(n.Mode), number(n.Time))
	switch n.Kind {
	case api.File:
		b = slices.Concat(b, number(n.Size), number(len(n.Parts)))
		for _, p := range n.Parts {
			b = append(b, p[:]...)
		}
	case api.Dir:
		b = append(b, n.Tree[:]...)
	case api.Link:
		b = append(b, text(n.Target)...)
	}
	return b
}

// bytesOf: those of items.
func bytesOf(l ...node.Node) []byte {
	b := head(len(l))
	for _, n := range l {
		b = append(b, body(n)...)
	}
	return b
}

// many: so many items, by their names.
func many(count int) []node.Node {
	var l []node.Node
	for i := range count {
		n := []node.Node{file(), dir(), link()}[i%3]
		n.Name = strconv.Itoa(100000 + i)
		l = append(l, n)
	}
	return l
}

func named(names ...string) []node.Node {
	var l []node.Node
	for _, s := range names {
		l = append(l, but(dir(), func(n *node.Node) { n.Name = s }))
	}
	return l
}

func sameAll(a, b []node.Node) bool {
	return slices.EqualFunc(a, b, same)
}

// checkBoth: the bytes of items, and these of them.
func checkBoth(t *testing.T, l ...node.Node) {
	t.Helper()
	want := bytesOf(l...)
	b, e := node.Encode(l...)
	if !bytes.Equal(b, want) || e != api.OK {
		t.Errorf("Encode of %d items: %d bytes, %d, not the document's %d", len(l), len(b), e, len(want))
	}
	if got, e := node.Decode(want); !sameAll(got, l) || e != api.OK {
		t.Errorf("Decode of %d items: %d, %d", len(l), len(got), e)
	}
}

func checkNone(t *testing.T, what string, b []byte) {
	t.Helper()
	if l, e := node.Decode(b); len(l) != 0 || e != api.ErrForm {
		t.Errorf("%q: Decode: %d items, %d", what, len(l), e)
	}
}

func checkRefused(t *testing.T, what string, want api.Errno, l ...node.Node) {
	t.Helper()
	if b, e := node.Encode(l...); len(b) != 0 || e != want {
		t.Errorf("%q: Encode: %d bytes, %d, not %d", what, len(b), e, want)
	}
}

// P7.1: the document's examples.
func TestExamples(t *testing.T) {
	for _, x := range []struct {
		l    []node.Node
		want []byte
	}{
		{nil, []byte{0x48, 0x59, 0x6e, 0x00}},
		{[]node.Node{{Name: "l", Kind: api.Link, Mode: 1, Time: 2, Target: "t"}}, []byte{0x48, 0x59, 0x6e, 0x01, 0x01, 0x6c, 0x02, 0x01, 0x02, 0x01, 0x74}},
	} {
		if b, e := node.Encode(x.l...); !bytes.Equal(b, x.want) || e != api.OK {
			t.Errorf("%x, %d", b, e)
		}
		if l, e := node.Decode(x.want); !sameAll(l, x.l) || e != api.OK {
			t.Error(l, e)
		}
	}
}

// P7.1 and P7.2: items of all kinds, at all edges, come back from the document's bytes.
func TestComesBack(t *testing.T) {
	checkBoth(t)
	for _, n := range fits() {
		checkBoth(t, n)
	}
	checkBoth(t, dir(), file(), link())
	yes, _ := names()
	slices.Sort(yes)
	checkBoth(t, named(yes...)...)
}

// P7.1: names rise byte by byte: a byte from 128 on is above the others, a beginning below what begins with it.
func TestOrder(t *testing.T) {
	checkBoth(t, named("A", "B", "a", "aa", "ab", "b", "\x7f", "\x80", "é", "\xff", "\xff\x01")...)
	for _, l := range [][]string{{"a", "a"}, {"b", "a"}, {"aa", "a"}, {"a", "B"}, {"\x80", "a"}, {"a", "c", "b"}, {"a", "b", "b"}, {"b", "a", "c"}, {"10", "9", "8"}} {
		checkRefused(t, strings.Join(l, " "), api.ErrForm, named(l...)...)
		checkNone(t, strings.Join(l, " "), bytesOf(named(l...)...))
	}
}

// P7.1: there are 2000 items at most.
func TestMostItems(t *testing.T) {
	for _, n := range []int{1, 127, 128, 1999, 2000} {
		checkBoth(t, many(n)...)
	}
	for _, n := range []int{2001, 2002, 5000} {
		checkRefused(t, "too many", api.ErrBig, many(n)...)
		checkNone(t, "too many", bytesOf(many(n)...))
	}
}

// P7.1: Encode's errors, in their order: too many; then the first item's that has one; then the names' order.
func TestEncodeRefuses(t *testing.T) {
	noName := but(dir(), func(n *node.Node) { n.Name = "a/b" })
	noForm := but(dir(), func(n *node.Node) { n.Mode = -1 })
	disorder := named("z", "y")
	for _, n := range faults() {
		checkRefused(t, "not in form", api.ErrForm, n)
		checkRefused(t, "not in form", api.ErrForm, append(named("a"), n)...)
	}
	_, no := names()
	for _, s := range no {
		checkRefused(t, s, api.ErrName, named(s)...)
		checkRefused(t, s, api.ErrName, named("a", s, "b")...)
	}
	checkRefused(t, "a name first", api.ErrName, dir(), noName, noForm)
	checkRefused(t, "a form first", api.ErrForm, dir(), noForm, noName)
	checkRefused(t, "the order last", api.ErrName, append(disorder, noName)...)
	checkRefused(t, "one name twice, and none", api.ErrName, dir(), dir(), noName)
	checkRefused(t, "the order", api.ErrForm, disorder...)
	checkRefused(t, "too many first", api.ErrBig, append(many(2000), noName)...)
	checkRefused(t, "too many first", api.ErrBig, append([]node.Node{noName, noForm}, many(1999)...)...)
	checkRefused(t, "just as many", api.ErrName, append(many(1999), noName)...)
}

// P7.1 and P7.2: what isn't in form has no bytes, though they could be written.
func TestDecodeRefusesFaults(t *testing.T) {
	for i, n := range faults() {
		if n.Kind < 0 || n.Mode < 0 || n.Time < 0 || n.Size < 0 {
			continue // such a number has no bytes
		}
		if node.Check(shown(n)) != api.OK {
			checkNone(t, strconv.Itoa(i), bytesOf(n))
		}
	}
	_, no := names()
	for _, s := range no {
		checkNone(t, s, bytesOf(named(s)...))
	}
}

// shown: what of a node its bytes show.
func shown(n node.Node) node.Node {
	if n.Kind != api.File {
		n.Size, n.Parts = 0, nil
	}
	if n.Kind != api.Dir {
		n.Tree = api.Id{}
	}
	if n.Kind != api.Link {
		n.Target = ""
	}
	return n
}

// P7.1: bytes that end too soon, that go on, that are of another kind, or whose counts don't fit.
func TestDecodeRefuses(t *testing.T) {
	good := bytesOf(dir(), file(), link())
	for n := range good {
		checkNone(t, "its beginning", good[:n])
	}
	for x := range 256 {
		checkNone(t, "a byte more", append(bytes.Clone(good), byte(x)))
		if x != 0x6e {
			other := bytes.Clone(good)
			other[2] = byte(x)
			checkNone(t, "another kind", other)
		}
	}
	body := bytes.Join([][]byte{body(dir()), body(file()), body(link())}, nil)
	for _, n := range []int{0, 1, 2, 4, 2000, 2001, 1 << 40} {
		checkNone(t, "another count", append(head(n), body...))
	}
	long := []byte{0x48, 0x59, 0x6e, 0x83, 0x00}
	checkNone(t, "a count with a nought too many", append(long, body...))
	few := slices.Concat(head(1), text("f"), number(0), number(0), number(0))
	for _, x := range [][2]int{{1 << 20, 1 << 20}, {1 << 20, 1}, {1, 1 << 20}, {1, 0}, {0, 1}, {1 << 61, 1 << 61}, {1<<62 - 1, 1<<62 - 1}} {
		checkNone(t, "parts that aren't there", slices.Concat(few, number(x[0]), number(x[1])))
	}
}

// P1 and P7.2: whatever bytes come: they are none's, or just those of the items that are answered.
func TestNoOtherBytes(t *testing.T) {
	small := but(file(), func(n *node.Node) { n.Name, n.Size, n.Parts = "a", 2, ids(2) })
	good := bytesOf(small, dir(), link(), but(link(), func(n *node.Node) { n.Name = "m" }))
	check := func(b []byte) bool {
		l, e := node.Decode(b)
		if e == api.ErrForm && len(l) == 0 {
			return false
		}
		if again, e2 := node.Encode(l...); e != api.OK || e2 != api.OK || !bytes.Equal(again, b) {
			t.Errorf("Decode of %x: %v, %d; their bytes: %x, %d", b, l, e, again, e2)
		}
		return true
	}
	whole := 0
	for at := range good {
		for x := range 256 {
			b := bytes.Clone(good)
			b[at] = byte(x)
			if check(b) {
				whole++
			}
			check(slices.Insert(bytes.Clone(good), at, byte(x)))
		}
		check(slices.Delete(bytes.Clone(good), at, at+1))
	}
	if whole < 1000 {
		t.Error("too few are some items':", whole)
	}
	r := rand.New(rand.NewSource(1))
	for range 50000 {
		b := bytes.Clone(good)
		for range 1 + r.Intn(4) {
			at := r.Intn(len(b))
			switch r.Intn(4) {
			case 0:
				b[at] = byte(r.Int())
			case 1:
				b = slices.Insert(b, at, byte(r.Intn(3)))
			case 2:
				b = slices.Delete(b, at, at+1)
			case 3:
				b[at] ^= 1 << r.Intn(8)
			}
		}
		check(b)
	}
}

// some: items that look like chance.
func some(r *rand.Rand) []node.Node {
	l := many(r.Intn(20))
	for i := range l {
		n := &l[i]
		n.Name += strings.Repeat(string([]byte{byte(1 + r.Intn(46))}), r.Intn(200))
		n.Mode, n.Time = r.Intn(4096), r.Intn(1<<40+1)
		switch n.Kind {
		case api.File:
			n.Size = r.Intn(1 << 20)
			n.Parts = ids(min(n.Size, 1+r.Intn(200)))
		case api.Dir:
			n.Tree = id(r.Int())
		case api.Link:
			n.Target = strings.Repeat("\xff", 1+r.Intn(4095))
		}
	}
	return l
}

// P7.2: many lists of items come back.
func TestManyComeBack(t *testing.T) {
	r := rand.New(rand.NewSource(2))
	for range 500 {
		checkBoth(t, some(r)...)
	}
}

// P7.3: what is handed in isn't changed, its spare room neither, and isn't kept.
func TestBytesKeepNothing(t *testing.T) {
	room := ids(6)
	l := []node.Node{dir(), but(file(), func(n *node.Node) { n.Parts = room[:3] }), link()}
	want := bytesOf(l[:2]...)
	b, _ := node.Encode(l[:2]...)
	if !reflect.DeepEqual(room, ids(6)) || !same(l[2], link()) {
		t.Error("items are changed")
	}
	clear(room)
	clear(l)
	if !bytes.Equal(b, want) {
		t.Error("bytes share the items' memory")
	}
	given := append(bytes.Clone(b), "room"...)
	got, _ := node.Decode(given[:len(b)])
	if string(given) != string(want)+"room" {
		t.Error("bytes are changed")
	}
	clear(given)
	if !sameAll(got, []node.Node{dir(), file()}) {
		t.Error("items share the bytes' memory")
	}
}

// P7.3, and rule 4: no two lists of an answer share memory, their spare room neither.
func TestListsShareNothing(t *testing.T) {
	l := many(30)
	b := bytesOf(l...)
	got, _ := node.Decode(b)
	again, _ := node.Decode(b)
	for i := range got {
		_ = append(got[i].Parts, id(12345), id(12345), id(12345), id(12345))
		parts := got[i].Parts[:cap(got[i].Parts)]
		was := ids(3)
		if len(parts) > 0 && !reflect.DeepEqual(parts[:3], was) {
			t.Error("lists share memory", i)
		}
		for j := range parts {
			parts[j] = id(12345)
		}
	}
	if !sameAll(again, l) {
		t.Error("two answers share memory")
	}
}
