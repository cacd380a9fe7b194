package glyph_test

import (
	"bytes"
	"math"
	"math/rand"
	"strings"
	"testing"

	"hypogeum/api"
	"hypogeum/glyph"
)

// checkOver: behind an error all answers are nought, and the error is the same, whatever is asked.
func checkOver(t *testing.T, i *glyph.In, want api.Errno) {
	t.Helper()
	for range 2 {
		if n := i.Num(math.MaxInt); n != 0 {
			t.Error("Num", n)
		}
		if s := i.Text(math.MaxInt); s != "" {
			t.Errorf("Text %q", s)
		}
		if i.Flag() {
			t.Error("Flag")
		}
		for _, n := range []int{1, 0, -1, math.MinInt, math.MaxInt} {
			if b := i.Raw(n); len(b) != 0 {
				t.Errorf("Raw %x", b)
			}
		}
		if e := i.Err(); e != want {
			t.Errorf("Err() = %d, not %d", e, want)
		}
		if e := i.End(); e != want {
			t.Errorf("End() = %d, not %d", e, want)
		}
	}
}

// checkWhole: there is no error, and nothing is left.
func checkWhole(t *testing.T, i *glyph.In) {
	t.Helper()
	if i.Err() != api.OK || i.End() != api.OK || i.Err() != api.OK {
		t.Errorf("Err() = %d, End() = %d", i.Err(), i.End())
	}
}

// P6.1: the document's examples.
func TestReadExample(t *testing.T) {
	i := glyph.Open(7, []byte{0x48, 0x59, 0x07, 0xac, 0x02, 0x02, 0x61, 0x62, 0x01})
	if n, s, yes := i.Num(300), i.Text(2), i.Flag(); n != 300 || s != "ab" || !yes {
		t.Error(n, s, yes)
	}
	checkWhole(t, i)
	i = glyph.Open(7, []byte{0x48, 0x59, 0x07, 0x80, 0x00})
	if n := i.Num(300); n != 0 {
		t.Error(n)
	}
	checkOver(t, i, api.ErrForm)
}

// P6.1: Open: ErrTail, if it is a right beginning that is too short; ErrForm, if it is wrong.
func TestOpen(t *testing.T) {
	for _, x := range []struct {
		b    []byte
		want api.Errno
	}{
		{nil, api.ErrTail},
		{[]byte{}, api.ErrTail},
		{[]byte{0x48}, api.ErrTail},
		{[]byte{0x48, 0x59}, api.ErrTail},
		{[]byte{0x59}, api.ErrForm},
		{[]byte{0}, api.ErrForm},
		{[]byte{0x48, 0x48}, api.ErrForm},
		{[]byte{0x59, 0x59}, api.ErrForm},
		{[]byte{0x48, kind}, api.ErrForm},
		{[]byte{0x48, 0x59, kind + 1}, api.ErrForm},
		{[]byte{0x48, 0x59, 0}, api.ErrForm},
		{[]byte{0x48, 0x58, kind}, api.ErrForm},
		{[]byte{0x49, 0x59, kind}, api.ErrForm},
		{[]byte{0x49, 0x59, kind, 1}, api.ErrForm},
		{[]byte{kind, 0x48, 0x59, kind}, api.ErrForm},
	} {
		i := glyph.Open(kind, x.b)
		if e := i.Err(); e != x.want {
			t.Errorf("Open of %x: %d, not %d", x.b, e, x.want)
		}
		checkOver(t, i, x.want)
	}
	checkWhole(t, glyph.Open(kind, thing()))
}

// P6.1: Open takes each kind for itself alone.
func TestOpenKinds(t *testing.T) {
	for made := range 256 {
		b, _ := glyph.Begin(byte(made)).Bytes()
		for asked := range 256 {
			want := api.ErrForm
			if asked == made {
				want = api.OK
			}
			if e := glyph.Open(byte(asked), b).End(); e != want {
				t.Error(made, asked, e)
			}
		}
	}
}

// P6.1: numbers come back; most is what may be, and not one more.
func TestReadNumbers(t *testing.T) {
	for _, n := range numbers() {
		for _, most := range []int{n, n + 1, math.MaxInt} {
			i := glyph.Open(kind, thing(number(n)))
			if got := i.Num(most); got != n {
				t.Errorf("Num(%d) = %d, not %d", most, got, n)
			}
			checkWhole(t, i)
		}
		for _, most := range []int{n - 1, -1, math.MinInt} {
			i := glyph.Open(kind, thing(number(n)))
			if got := i.Num(most); got != 0 {
				t.Errorf("Num(%d) = %d", most, got)
			}
			checkOver(t, i, api.ErrBig)
		}
	}
}

// readNumber: the number at the beginning of bytes, how many these are, by the document's words; an error, if there is none.
func readNumber(b []byte) (int, int, api.Errno) {
	end := 0
	for end < len(b) && end < 9 && b[end] >= 128 {
		end++
	}
	if end == 9 {
		return 0, 0, api.ErrForm
	}
	if end == len(b) {
		return 0, 0, api.ErrTail
	}
	var n uint64 // 63 bits at most: they have room
	for at := end; at >= 0; at-- {
		n = n*128 + uint64(b[at]%128)
	}
	if b[end] == 0 && end > 0 || n >= 1<<62 {
		return 0, 0, api.ErrForm
	}
	return int(n), end + 1, api.OK
}

func checkNumber(t *testing.T, b []byte) {
	t.Helper()
	want, size, e := readNumber(b)
	i := glyph.Open(kind, thing(b))
	if got := i.Num(mostNum); got != want || i.Err() != e {
		t.Errorf("Num of %x: %d, %d, not %d, %d", b, got, i.Err(), want, e)
	}
	if e != api.OK {
		checkOver(t, i, e)
		return
	}
	if rest := i.Raw(len(b) - size); !bytes.Equal(rest, b[size:]) {
		t.Errorf("Num of %x: behind it is %x", b, rest)
	}
	checkWhole(t, i)
}

// P6.1: Num of all bytes up to two, and of many that look like chance.
func TestReadNumberOfAll(t *testing.T) {
	checkNumber(t, nil)
	for a := range 256 {
		checkNumber(t, []byte{byte(a)})
		for b := range 256 {
			checkNumber(t, []byte{byte(a), byte(b)})
		}
	}
	for last := range 256 {
		checkNumber(t, append(bytes.Repeat([]byte{255}, 8), byte(last), 1))
		checkNumber(t, append(bytes.Repeat([]byte{128}, 8), byte(last), 1))
	}
	r := rand.New(rand.NewSource(1))
	some := []byte{0, 1, 63, 64, 127, 128, 129, 191, 192, 255}
	for range 20000 {
		b := make([]byte, r.Intn(12))
		for i := range b {
			b[i] = some[r.Intn(len(some))]
			if r.Intn(4) > 0 {
				b[i] |= 128
			}
		}
		checkNumber(t, b)
	}
}

// P6.1: Num's errors, one by one, at their edges.
func TestReadNoNumbers(t *testing.T) {
	top := func(n int, last ...byte) []byte {
		return append(bytes.Repeat([]byte{128}, n), last...)
	}
	for _, x := range []struct {
		b    []byte
		want api.Errno
	}{
		{nil, api.ErrTail},
		{top(1), api.ErrTail},
		{top(8), api.ErrTail},
		{top(9), api.ErrForm},
		{top(10), api.ErrForm},
		{top(9, 0), api.ErrForm},
		{top(9, 1), api.ErrForm},
		{top(1, 0), api.ErrForm},
		{top(7, 0), api.ErrForm},
		{top(8, 0), api.ErrForm},
		{top(8, 64), api.ErrForm},
		{top(8, 127), api.ErrForm},
		{append(bytes.Repeat([]byte{255}, 8), 64), api.ErrForm},
		{append(bytes.Repeat([]byte{255}, 8), 127), api.ErrForm},
		{[]byte{0xac, 0}, api.ErrForm},
	} {
		for _, most := range []int{math.MaxInt, mostNum, 0, -1, math.MinInt} {
			i := glyph.Open(kind, thing(x.b))
			if n := i.Num(most); n != 0 {
				t.Errorf("Num(%d) of %x: %d", most, x.b, n)
			}
			checkOver(t, i, x.want)
		}
	}
	i := glyph.Open(kind, thing([]byte{0}))
	if i.Num(0) != 0 {
		t.Error("0")
	}
	checkWhole(t, i)
}

// P6.1: texts come back; most and 2^17, the lesser, is what may be.
func TestReadTexts(t *testing.T) {
	for _, n := range []int{0, 1, 127, 128, 300, api.MaxText - 1, api.MaxText} {
		s := strings.Repeat("\xfe", n)
		for _, most := range []int{n, n + 1, math.MaxInt} {
			i := glyph.Open(kind, thing(text(s)))
			if got := i.Text(most); got != s {
				t.Errorf("Text(%d) has %d bytes, not %d", most, len(got), n)
			}
			checkWhole(t, i)
		}
		for _, most := range []int{n - 1, -1, math.MinInt} {
			i := glyph.Open(kind, thing(text(s)))
			if got := i.Text(most); got != "" {
				t.Errorf("Text(%d) has %d bytes", most, len(got))
			}
			checkOver(t, i, api.ErrBig)
		}
	}
}

// P6.1: Text's errors: those of its count, ErrBig ahead of ErrTail.
func TestReadNoTexts(t *testing.T) {
	long := number(api.MaxText + 1)
	for _, x := range []struct {
		b    []byte
		most int
		want api.Errno
	}{
		{nil, 9, api.ErrTail},
		{[]byte{128}, 9, api.ErrTail},
		{[]byte{128, 0}, 9, api.ErrForm},
		{bytes.Repeat([]byte{255}, 9), 9, api.ErrForm},
		{[]byte{1}, 9, api.ErrTail},
		{[]byte{3, 'a', 'b'}, 9, api.ErrTail},
		{[]byte{9, 'a'}, 9, api.ErrTail},
		{[]byte{10, 'a'}, 9, api.ErrBig},
		{number(mostNum), math.MaxInt, api.ErrBig},
		{number(api.MaxText), math.MaxInt, api.ErrTail},
		{long, math.MaxInt, api.ErrBig},
		{append(long, make([]byte, api.MaxText+1)...), math.MaxInt, api.ErrBig},
		{[]byte{0}, -1, api.ErrBig},
	} {
		i := glyph.Open(kind, thing(x.b))
		if s := i.Text(x.most); s != "" {
			t.Errorf("Text of %d bytes: %q", len(x.b), s)
		}
		checkOver(t, i, x.want)
	}
}

// P6.1: a flag is 1 or 0, nothing else.
func TestReadFlags(t *testing.T) {
	i := glyph.Open(kind, thing([]byte{1, 0, 1}))
	if !i.Flag() || i.Flag() || !i.Flag() {
		t.Error("Flag")
	}
	checkWhole(t, i)
	if i.Flag() {
		t.Error("Flag behind the end")
	}
	checkOver(t, i, api.ErrTail)
	for x := 2; x < 256; x++ {
		i := glyph.Open(kind, thing([]byte{byte(x), 1}))
		if i.Flag() {
			t.Error(x)
		}
		checkOver(t, i, api.ErrForm)
	}
}

// P6.1: Raw: as many bytes as there are; ErrArg ahead of ErrTail.
func TestReadRaw(t *testing.T) {
	b := bytes.Repeat([]byte{0, 128, 255}, api.MaxText)
	i := glyph.Open(kind, thing(b))
	if len(i.Raw(0)) != 0 || !bytes.Equal(i.Raw(5), b[:5]) || !bytes.Equal(i.Raw(len(b)-5), b[5:]) || len(i.Raw(0)) != 0 {
		t.Error("Raw")
	}
	checkWhole(t, i)
	for _, x := range []struct {
		n    int
		want api.Errno
	}{{1, api.ErrTail}, {math.MaxInt, api.ErrTail}, {-1, api.ErrArg}, {math.MinInt, api.ErrArg}} {
		i := glyph.Open(kind, thing())
		if got := i.Raw(x.n); len(got) != 0 {
			t.Error(x.n, got)
		}
		checkOver(t, i, x.want)
		i = glyph.Open(kind, thing(b[:4]))
		if x.n == 1 {
			x.n = 5
		}
		if got := i.Raw(x.n); len(got) != 0 {
			t.Error(x.n, got)
		}
		checkOver(t, i, x.want)
	}
}

// P6.1: End: bytes that are left are ErrForm, from then on.
func TestEnd(t *testing.T) {
	i := glyph.Open(kind, thing([]byte{5, 6}))
	if i.Num(9) != 5 || i.Err() != api.OK {
		t.Error("Num")
	}
	if e := i.End(); e != api.ErrForm {
		t.Error(e)
	}
	checkOver(t, i, api.ErrForm)
	i = glyph.Open(kind, thing([]byte{5}))
	if i.End() != api.ErrForm || i.Num(9) != 0 {
		t.Error("nothing was read")
	}
	checkOver(t, i, api.ErrForm)
	// What comes behind the end is told, though End was asked ahead.
	i = glyph.Open(kind, thing([]byte{5}))
	i.Num(5)
	checkWhole(t, i)
	i.Num(5)
	checkOver(t, i, api.ErrTail)
}

// P1 and P6.1: a nil In answers ErrArg; nothing panics.
func TestNilIn(t *testing.T) {
	checkOver(t, nil, api.ErrArg)
	i := new(glyph.In)
	i.Num(1)
	i.Text(1)
	i.Flag()
	i.Raw(1)
	i.End()
}

// P6.3: Open keeps none of the bytes, changes none; answers are memory of their own.
func TestReadKeepsNothing(t *testing.T) {
	b := thing([]byte{5}, text("abc"), []byte{1}, []byte("raw"), []byte("more"))
	room := append(bytes.Clone(b), "room"...)
	i := glyph.Open(kind, room[:len(b)])
	if !bytes.Equal(room, append(bytes.Clone(b), "room"...)) {
		t.Error("changed")
	}
	clear(room)
	if n, s, yes := i.Num(5), i.Text(3), i.Flag(); n != 5 || s != "abc" || !yes {
		t.Error("kept", n, s, yes)
	}
	raw := i.Raw(3)
	if string(raw) != "raw" {
		t.Errorf("%q", raw)
	}
	for j := range raw[:cap(raw)] {
		raw[:cap(raw)][j] = 77
	}
	if more := i.Raw(4); string(more) != "more" {
		t.Errorf("answers share memory: %q", more)
	}
	if !bytes.Equal(room, make([]byte, len(room))) {
		t.Error("an answer shares the argument's memory")
	}
	checkWhole(t, i)
}

// script: what is done one by one: N a number, T a text, F a flag, R three bytes.
func script(r *rand.Rand) string {
	s := make([]byte, r.Intn(6))
	for i := range s {
		s[i] = "NTFR"[r.Intn(4)]
	}
	return string(s)
}

// again: what a script reads of bytes is written: is it all?
func again(s string, b []byte) ([]byte, api.Errno) {
	i, o := glyph.Open(kind, b), glyph.Begin(kind)
	for _, c := range s {
		switch c {
		case 'N':
			o.Num(i.Num(math.MaxInt))
		case 'T':
			o.Text(i.Text(math.MaxInt))
		case 'F':
			o.Flag(i.Flag())
		case 'R':
			o.Raw(i.Raw(3))
		}
	}
	if e := i.End(); e != api.OK {
		return nil, e
	}
	return o.Bytes()
}

// P6.2: what is written is read.
func TestWrittenIsRead(t *testing.T) {
	r := rand.New(rand.NewSource(2))
	for range 3000 {
		s := script(r)
		o := glyph.Begin(kind)
		for _, c := range s {
			switch c {
			case 'N':
				o.Num(r.Int() >> (1 + r.Intn(62)))
			case 'T':
				o.Text(strings.Repeat("t", r.Intn(300)))
			case 'F':
				o.Flag(r.Intn(2) == 1)
			case 'R':
				o.Raw([]byte{byte(r.Int()), 128, 0})
			}
		}
		b, e := o.Bytes()
		if e != api.OK {
			t.Fatal(s, e)
		}
		if got, e := again(s, b); !bytes.Equal(got, b) || e != api.OK {
			t.Errorf("%s: %x is read as %x, %d", s, b, got, e)
		}
		if len(s) > 0 {
			if _, e := again(s, b[:len(b)-1]); e != api.ErrTail {
				t.Errorf("%s: %x without its last byte: %d", s, b, e)
			}
		}
		if _, e := again(s, append(b, 0)); e != api.ErrForm {
			t.Errorf("%s: %x with a byte more: %d", s, b, e)
		}
	}
}

// P6.2: whatever is read wholly is what would be written of it.
func TestNothingElseIsRead(t *testing.T) {
	r := rand.New(rand.NewSource(3))
	some := []byte{0, 0, 1, 1, 2, 3, 127, 128, 128, 129, 255}
	whole := 0
	for range 200000 {
		b := thing()
		for range r.Intn(9) {
			b = append(b, some[r.Intn(len(some))])
		}
		s := script(r)
		got, e := again(s, b)
		if e != api.OK {
			continue
		}
		whole++
		if !bytes.Equal(got, b) {
			t.Errorf("%s: %x is read, and written as %x", s, b, got)
		}
	}
	if whole < 1000 {
		t.Error("too few are read wholly:", whole)
	}
}
