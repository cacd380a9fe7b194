package glyph_test

import (
	"bytes"
	"math"
	"strings"
	"testing"

	"hypogeum/api"
	"hypogeum/glyph"
)

const (
	mostNum = 1<<62 - 1
	kind    = 0x07
)

// number: a number's bytes, by the document's words.
func number(n int) []byte {
	var b []byte
	for n > 127 {
		b = append(b, byte(128+n%128))
		n /= 128
	}
	return append(b, byte(n))
}

// text: a text's bytes, by the document's words.
func text(s string) []byte {
	return append(number(len(s)), s...)
}

// thing: the bytes of a thing that is made of parts.
func thing(parts ...[]byte) []byte {
	return append([]byte{0x48, 0x59, kind}, bytes.Join(parts, nil)...)
}

// numbers: those at which a byte more is needed, and their neighbours.
func numbers() []int {
	l := []int{0, 1, 2, 100, 300, 1000000, mostNum - 1, mostNum}
	for i := range 62 {
		l = append(l, 1<<i-1, 1<<i, 1<<i+1)
	}
	return l
}

func checkBytes(t *testing.T, o *glyph.Out, want []byte) {
	t.Helper()
	if got, e := o.Bytes(); !bytes.Equal(got, want) || e != api.OK {
		t.Errorf("Bytes() = %x, %d, not %x", got, e, want)
	}
}

// checkFault: rule 2: there are no bytes beside an error.
func checkFault(t *testing.T, o *glyph.Out, want api.Errno) {
	t.Helper()
	for range 2 {
		if got, e := o.Bytes(); len(got) != 0 || e != want {
			t.Errorf("Bytes() = %d bytes, %d, not %d", len(got), e, want)
		}
	}
}

// P6.1: the document's example.
func TestWriteExample(t *testing.T) {
	checkBytes(t, glyph.Begin(7).Num(300).Text("ab").Flag(true), []byte{0x48, 0x59, 0x07, 0xac, 0x02, 0x02, 0x61, 0x62, 0x01})
}

// P6.1: Begin has three bytes, of each kind.
func TestBegin(t *testing.T) {
	for k := range 256 {
		checkBytes(t, glyph.Begin(byte(k)), []byte{0x48, 0x59, byte(k)})
	}
}

// P6.1: each of a list in its turn; no list: nothing; the answer is the same Out.
func TestLists(t *testing.T) {
	o := glyph.Begin(kind)
	if o.Num() != o || o.Text() != o || o.Flag() != o || o.Raw() != o || o.Raw(nil, []byte{}) != o {
		t.Error("another Out")
	}
	checkBytes(t, o, thing())
	if o.Num(5, 128, 0) != o || o.Text("b", "", "a") != o || o.Flag(true, false, true) != o || o.Raw([]byte{9, 255}, nil, []byte{0}) != o {
		t.Error("another Out")
	}
	checkBytes(t, o, thing([]byte{5, 128, 1, 0}, []byte{1, 'b', 0, 1, 'a'}, []byte{1, 0, 1}, []byte{9, 255, 0}))
	o.Num(1)
	checkBytes(t, o, thing([]byte{5, 128, 1, 0}, []byte{1, 'b', 0, 1, 'a'}, []byte{1, 0, 1}, []byte{9, 255, 0}, []byte{1}))
}

// P6.1: the bytes of numbers.
func TestWriteNumbers(t *testing.T) {
	var all []byte
	for _, n := range numbers() {
		checkBytes(t, glyph.Begin(kind).Num(n), thing(number(n)))
		all = append(all, number(n)...)
	}
	checkBytes(t, glyph.Begin(kind).Num(numbers()...), thing(all))
	checkBytes(t, glyph.Begin(kind).Num(mostNum), thing(bytes.Repeat([]byte{255}, 8), []byte{63}))
}

// P6.1: what is no number: ErrArg.
func TestWriteNoNumbers(t *testing.T) {
	for _, n := range []int{-1, -128, math.MinInt, mostNum + 1, mostNum + 2, math.MaxInt} {
		checkFault(t, glyph.Begin(kind).Num(n), api.ErrArg)
		checkFault(t, glyph.Begin(kind).Num(1, n, 2), api.ErrArg)
		checkFault(t, glyph.Begin(kind).Num(1, 2).Text("a").Num(n), api.ErrArg)
	}
}

// P6.1: a text has 2^17 bytes at most, whatever they are.
func TestWriteTexts(t *testing.T) {
	for _, n := range []int{0, 1, 127, 128, 129, 16383, 16384, api.MaxText - 1, api.MaxText} {
		s := strings.Repeat("\xff", n)
		checkBytes(t, glyph.Begin(kind).Text(s), thing(text(s)))
	}
	for _, n := range []int{api.MaxText + 1, 2 * api.MaxText} {
		s := strings.Repeat("a", n)
		checkFault(t, glyph.Begin(kind).Text(s), api.ErrBig)
		checkFault(t, glyph.Begin(kind).Text("a", s, "b"), api.ErrBig)
	}
	checkBytes(t, glyph.Begin(kind).Text("a\x00/\n"), thing(text("a\x00/\n")))
}

// P6.1: bytes as they are have no such bound.
func TestWriteRaw(t *testing.T) {
	b := bytes.Repeat([]byte{128, 0, 255}, api.MaxText)
	checkBytes(t, glyph.Begin(kind).Raw(b, b[:1]), thing(b, b[:1]))
}

// P6.1: the first fault is the one that is told; nothing comes of calls behind it.
func TestWriteFirstFault(t *testing.T) {
	long := strings.Repeat("a", api.MaxText+1)
	for _, e := range []api.Errno{api.ErrArg, api.ErrBig} {
		o := glyph.Begin(kind).Num(1)
		if e == api.ErrArg {
			o.Num(2, -1, 3)
		} else {
			o.Text("a", long, "b")
		}
		checkFault(t, o, e)
		if o.Num(1, -1) != o || o.Text("a", long) != o || o.Flag(true) != o || o.Raw([]byte{1}) != o {
			t.Error("another Out")
		}
		checkFault(t, o, e)
	}
}

// P1 and P6.1: a nil Out answers ErrArg; nothing panics.
func TestNilOut(t *testing.T) {
	var o *glyph.Out
	checkFault(t, o, api.ErrArg)
	checkFault(t, o.Num(1, -1).Text("a").Flag(true).Raw([]byte{1}), api.ErrArg)
	if o.Num() != nil || o.Text() != nil || o.Flag() != nil || o.Raw() != nil {
		t.Error("another Out")
	}
	new(glyph.Out).Num(1).Text("a").Flag(true).Raw([]byte{1}).Bytes()
}

// P6.3: bytes and lists that are handed in stay as they are, their spare room too, and aren't kept.
func TestWriteKeepsNothing(t *testing.T) {
	b := []byte("bytes and room")
	nums, texts, flags, raws := []int{1, 2, 3}, []string{"a", "b", "c"}, []bool{true, true, false}, [][]byte{b[:5], b[:5], nil}
	o := glyph.Begin(kind).Num(nums[:2]...).Text(texts[:2]...).Flag(flags[:2]...).Raw(raws[:2]...)
	want := thing([]byte{1, 2}, text("a"), text("b"), []byte{1, 1}, []byte("bytesbytes"))
	checkBytes(t, o, want)
	if string(b) != "bytes and room" || nums[2] != 3 || texts[2] != "c" || flags[2] || raws[2] != nil {
		t.Error("changed")
	}
	clear(b)
	clear(nums)
	clear(texts)
	clear(flags)
	clear(raws)
	checkBytes(t, o, want)
}

// P6.3: each answer is memory of its own, its spare room too.
func TestBytesAreNew(t *testing.T) {
	o := glyph.Begin(kind).Raw(make([]byte, 20))
	one, _ := o.Bytes()
	two, _ := o.Bytes()
	for i := range one[:cap(one)] {
		one[:cap(one)][i] = 77
	}
	if !bytes.Equal(two, thing(make([]byte, 20))) {
		t.Errorf("two answers share memory: %x", two)
	}
	o.Num(1)
	checkBytes(t, o, thing(make([]byte, 20), []byte{1}))
	if !bytes.Equal(one, bytes.Repeat([]byte{77}, 23)) || len(two) != 23 {
		t.Error("what comes later changes an answer")
	}
}
