package pack_test

import (
	"bytes"
	"math"
	"math/rand"
	"slices"
	"testing"

	"hypogeum/api"
	"hypogeum/cell"
	"hypogeum/key"
	"hypogeum/pack"
	"hypogeum/wax"
)

// add: a blob, of which it is known whether it is new.
func add(t *testing.T, w *pack.Writer, r key.Ring, x blob, fresh bool) {
	t.Helper()
	if id, ok, e := w.Add(x.kind, x.bytes); id != idOf(r, x) || ok != fresh || e != api.OK {
		t.Errorf("Add of %d bytes: %x, %v, %d", len(x.bytes), id, ok, e)
	}
}

// checkRefused: Add answers this error, nothing beside it, and nothing is more than it was.
func checkRefused(t *testing.T, w *pack.Writer, want api.Errno, kind int, parts ...[]byte) {
	t.Helper()
	count, size := w.Count(), w.Size()
	if id, ok, e := w.Add(kind, parts...); id != (api.Id{}) || ok || e != want {
		t.Errorf("Add(%d, ..): %x, %v, %d, not %d", kind, id, ok, e, want)
	}
	checkHas(t, w, count, size)
}

func checkHas(t *testing.T, w *pack.Writer, count, size int) {
	t.Helper()
	if w.Count() != count || w.Size() != size {
		t.Errorf("%d blobs, %d bytes, not %d, %d", w.Count(), w.Size(), count, size)
	}
}

// checkClose: the pack is that of the document's words, by these nonces; then there are no blobs.
func checkClose(t *testing.T, w *pack.Writer, r key.Ring, nonces *cell.Tape, l ...blob) {
	t.Helper()
	want, entries := packOf(t, r, nonces, l...)
	name, b, got, e := w.Close()
	if e != api.OK || name != nameOf(want) || !bytes.Equal(b, want) || !slices.Equal(got, entries) {
		t.Errorf("Close of %d blobs: %s, %d bytes, %v, %d", len(l), name, len(b), got, e)
	}
	checkHas(t, w, 0, 0)
	checkNothing(t, w)
}

// checkNothing: there is nothing to be closed.
func checkNothing(t *testing.T, w *pack.Writer) {
	t.Helper()
	if name, b, l, e := w.Close(); name != "" || len(b) != 0 || len(l) != 0 || e != api.ErrEnd {
		t.Errorf("Close of nothing: %q, %d, %d, %d", name, len(b), len(l), e)
	}
}

// P12.1: the document's examples.
func TestExamples(t *testing.T) {
	r := ring(1)
	w := pack.New(pen(r, "t"))
	checkNothing(t, w)
	first, ok, e := w.Add(1, []byte("a"))
	if !ok || e != api.OK {
		t.Error(ok, e)
	}
	if id, ok, e := w.Add(1, []byte("a")); id != first || ok || e != api.OK {
		t.Error(id, ok, e)
	}
	if id, ok, e := w.Add(2, []byte("a")); id == first || !ok || e != api.OK {
		t.Error(id, ok, e)
	}
	checkHas(t, w, 2, 98)
}

// P12.1: packs by the document's words, one behind the other, off one tape: of one blob, of some, of many.
func TestWrite(t *testing.T) {
	r := ring(1)
	w, nonces := pack.New(pen(r, "t")), cell.Wind([]byte("t"))
	for _, n := range []int{1, 2, 3, 40, 1000, 1} {
		size := 0
		for i, x := range blobs(n) {
			checkHas(t, w, i, size)
			add(t, w, r, x, true)
			size += len(x.bytes) + wax.Extra
		}
		checkHas(t, w, n, size)
		checkClose(t, w, r, nonces, blobs(n)...)
	}
	add(t, w, r, blob{1, nil}, true)
	checkClose(t, w, r, nonces, blob{1, nil})
}

// P12.2: what was taken comes back, blob by blob, and just that.
func TestTakenComesBack(t *testing.T) {
	chance := rand.New(rand.NewSource(5))
	for round := range 30 {
		r := ring(int64(round))
		w := pack.New(pen(r, "t"))
		var taken []blob
		for range 1 + chance.Intn(60) {
			x := blob{1 + chance.Intn(2), some(chance.Int63n(20), chance.Intn(3)*chance.Intn(5000))}
			id, fresh, e := w.Add(x.kind, x.bytes)
			there := slices.ContainsFunc(taken, func(y blob) bool { return y.kind == x.kind && bytes.Equal(y.bytes, x.bytes) })
			if id != idOf(r, x) || fresh == there || e != api.OK {
				t.Error(round, id, fresh, e)
			}
			if fresh {
				taken = append(taken, x)
			}
		}
		name, b, entries, e := w.Close()
		if e != api.OK || name != pack.Name(b) || len(entries) != len(taken) {
			t.Fatal(round, name, len(entries), len(taken), e)
		}
		checkEntries(t, r, b, entries)
		for i, x := range entries {
			if x.Id != idOf(r, taken[i]) || x.Kind != taken[i].kind {
				t.Error(round, i, x)
			}
			checkBlob(t, r, b, x, taken[i].bytes)
		}
	}
}

// P12.1: a blob's bytes are its parts, one behind the other, however they are shared out.
func TestAddParts(t *testing.T) {
	r := ring(1)
	x := blob{2, []byte("some bytes")}
	for _, parts := range [][][]byte{
		{x.bytes}, {nil, x.bytes, nil}, {x.bytes[:4], x.bytes[4:]}, {x.bytes[:1], x.bytes[1:1], x.bytes[1:9], x.bytes[9:]},
	} {
		w := pack.New(pen(r, "t"))
		if id, ok, e := w.Add(2, parts...); id != idOf(r, x) || !ok || e != api.OK {
			t.Error(id, ok, e)
		}
		add(t, w, r, x, false)
		checkClose(t, w, r, cell.Wind([]byte("t")), x)
	}
	w := pack.New(pen(r, "t"))
	for i, parts := range [][][]byte{nil, {nil}, {{}, nil, {}}} {
		if id, ok, e := w.Add(1, parts...); id != idOf(r, blob{1, nil}) || ok != (i == 0) || e != api.OK {
			t.Error(i, id, ok, e)
		}
	}
	checkClose(t, w, r, cell.Wind([]byte("t")), blob{1, nil})
}

// P12.1: a blob that was taken is taken once, and uses no nonce up then; behind Close it is new.
func TestAddTwice(t *testing.T) {
	r := ring(1)
	w, nonces := pack.New(pen(r, "t")), cell.Wind([]byte("t"))
	for range 3 {
		for _, fresh := range []bool{true, false, false} {
			for _, x := range blobs(20) {
				add(t, w, r, x, fresh)
			}
		}
		checkClose(t, w, r, nonces, blobs(20)...)
	}
}

// P12.1: what Add refuses, in its order; nothing is changed by it, and no nonce used up.
func TestAddWrong(t *testing.T) {
	r := ring(1)
	w, nonces := pack.New(pen(r, "t")), cell.Wind([]byte("t"))
	big := make([]byte, api.MaxBlob+1)
	refuse := func() {
		t.Helper()
		for _, kind := range []int{0, 3, -1, 256, 257, 258, -255, -254, 1<<32 + 1, math.MaxInt, math.MinInt, math.MinInt + 1} {
			checkRefused(t, w, api.ErrArg, kind, []byte("a"))
			checkRefused(t, w, api.ErrArg, kind, big)
			checkRefused(t, w, api.ErrArg, kind)
		}
		for _, kind := range []int{1, 2} {
			checkRefused(t, w, api.ErrBig, kind, big)
			checkRefused(t, w, api.ErrBig, kind, big[1:], nil, []byte("a"))
			checkRefused(t, w, api.ErrBig, kind, big, big, big)
			checkRefused(t, w, api.ErrBig, kind, slices.Repeat([][]byte{[]byte("a")}, api.MaxBlob+1)...)
		}
	}
	refuse()
	checkNothing(t, w)
	add(t, w, r, blob{1, []byte("a")}, true)
	refuse()
	add(t, w, r, blob{2, big[1:]}, true)
	refuse()
	checkClose(t, w, r, nonces, blob{1, []byte("a")}, blob{2, big[1:]})
}

// P12.1: 1000 blobs, and not one more; but for one that is there already.
func TestFullOfBlobs(t *testing.T) {
	r := ring(1)
	w, nonces := pack.New(pen(r, "t")), cell.Wind([]byte("t"))
	l := blobs(1001)
	for range 2 {
		for _, x := range l[:1000] {
			add(t, w, r, x, true)
		}
		checkRefused(t, w, api.ErrFull, l[1000].kind, l[1000].bytes)
		checkRefused(t, w, api.ErrFull, 2)
		checkRefused(t, w, api.ErrArg, 3, l[0].bytes)
		checkRefused(t, w, api.ErrBig, 1, make([]byte, api.MaxBlob+1))
		add(t, w, r, l[0], false)
		add(t, w, r, l[999], false)
		checkClose(t, w, r, nonces, l[:1000]...)
	}
}

// P12.1: 900000 sealed bytes, and not one more; what is less still finds its room.
func TestFullOfBytes(t *testing.T) {
	r := ring(1)
	w, nonces := pack.New(pen(r, "t")), cell.Wind([]byte("t"))
	var l []blob
	for i := range 6 {
		l = append(l, blob{1 + i%2, some(int64(i), api.MaxBlob)})
		add(t, w, r, l[i], true)
	}
	left := 900000 - 6*(api.MaxBlob+48) - 48
	checkRefused(t, w, api.ErrFull, 1, some(9, left+1))
	checkRefused(t, w, api.ErrFull, 1, some(9, left), []byte("a"))
	add(t, w, r, l[3], false)
	l = append(l, blob{1, some(9, left-48)})
	add(t, w, r, l[6], true)
	checkRefused(t, w, api.ErrFull, 2, []byte("a"))
	l = append(l, blob{2, nil})
	add(t, w, r, l[7], true)
	checkHas(t, w, 8, 900000)
	checkRefused(t, w, api.ErrFull, 1)
	checkRefused(t, w, api.ErrBig, 1, make([]byte, api.MaxBlob+1))
	add(t, w, r, l[0], false)
	checkClose(t, w, r, nonces, l...)
	add(t, w, r, l[0], true)
}

// P12.1: writers with one tape, and what else takes off it, never use one nonce twice.
func TestOneTape(t *testing.T) {
	r := ring(1)
	p := pen(r, "t")
	v, w := pack.New(p), pack.New(p)
	seen := map[[16]byte]int{}
	for i := range 5 {
		for _, x := range []*pack.Writer{v, w} {
			add(t, x, r, blob{1, []byte{byte(i)}}, true)
		}
		seen[p.Nonce()]++
		seen[w.Nonce()]++
	}
	for _, x := range []*pack.Writer{v, w} {
		_, b, l, _ := x.Close()
		for _, y := range l {
			seen[[16]byte(b[y.Off:])]++
		}
		seen[[16]byte(b[l[4].Off+l[4].Len:])]++
	}
	if len(seen) != 22 {
		t.Error(len(seen))
	}
}

// P12.1: a pen without a tape writes with noughts; a writer has its pen's calls.
func TestPens(t *testing.T) {
	r := ring(1)
	w := pack.New(key.Pen{Ring: r})
	add(t, w, r, blob{1, []byte("a")}, true)
	add(t, w, r, blob{2, []byte("b")}, true)
	checkClose(t, w, r, nil, blob{1, []byte("a")}, blob{2, []byte("b")})
	if w.Id(1, []byte("a")) != idOf(r, blob{1, []byte("a")}) || w.Ring != r {
		t.Error("Id")
	}
}

// P12.1, P1: a nil writer takes and has nothing; one that New didn't make has keys of noughts.
func TestNoWriter(t *testing.T) {
	var w *pack.Writer
	checkRefused(t, w, api.ErrArg, 1, []byte("a"))
	checkRefused(t, w, api.ErrArg, 3, make([]byte, api.MaxBlob+1))
	checkHas(t, w, 0, 0)
	if name, b, l, e := w.Close(); name != "" || b != nil || l != nil || e != api.ErrArg {
		t.Error(name, b, l, e)
	}
	w = new(pack.Writer)
	checkNothing(t, w)
	add(t, w, key.Ring{}, blob{1, []byte("a")}, true)
	add(t, w, key.Ring{}, blob{1, []byte("a")}, false)
	checkClose(t, w, key.Ring{}, nil, blob{1, []byte("a")})
}

// P12.3: what is handed in isn't changed or kept, its spare room neither.
func TestAddKeepsNothing(t *testing.T) {
	r := ring(1)
	w := pack.New(pen(r, "t"))
	room := []byte("abcdef")
	parts := [][]byte{room[:2], room[2:4], {}}[:2]
	if _, ok, e := w.Add(1, parts...); !ok || e != api.OK || string(room) != "abcdef" || len(parts[:3][2]) != 0 {
		t.Errorf("%v, %d, %q", ok, e, room)
	}
	clear(room)
	clear(parts)
	add(t, w, r, blob{1, []byte("abcd")}, false)
	checkClose(t, w, r, cell.Wind([]byte("t")), blob{1, []byte("abcd")})
}

// P12.3: what Close answers is new memory: what is taken behind that doesn't change it, nor the other way round.
func TestCloseIsNew(t *testing.T) {
	r := ring(1)
	w, nonces := pack.New(pen(r, "t")), cell.Wind([]byte("t"))
	for _, x := range blobs(9) {
		add(t, w, r, x, true)
	}
	_, b, l, _ := w.Close()
	wantBytes, want := packOf(t, r, nonces, blobs(9)...)
	for _, x := range blobs(12) {
		add(t, w, r, x, true)
	}
	if !bytes.Equal(b, wantBytes) || !slices.Equal(l, want) {
		t.Error("changed by the next pack")
	}
	clear(b[:cap(b)])
	clear(l[:cap(l)])
	checkClose(t, w, r, nonces, blobs(12)...)
}
