package cut_test

import (
	"bytes"
	"math"
	"math/rand"
	"slices"
	"testing"

	"hypogeum/api"
	"hypogeum/cut"
	"hypogeum/poly"
	"hypogeum/roll"
)

const prime = 0x3da3358b4dc173

// some: bytes that look like chance, the same ones each time.
func some(seed int64, n int) []byte {
	b := make([]byte, n)
	rand.New(rand.NewSource(seed)).Read(b)
	return b
}

// rules: of all kinds; bytes like chance are cut by them in all ways that there are.
func rules() []cut.Rule {
	return []cut.Rule{
		{64, 64, 1, prime},
		{64, 65, 1, prime},
		{64, 100, 4, prime},
		{64, 200, 6, 1<<24 | 0x1b},
		{64, 300, 6, 1 << 24},
		{65, 400, 7, 1<<63 | 1},
		{100, 500, 8, math.MaxUint64},
		{128, 129, 1, prime},
		{64, 65536, 4, prime},
	}
}

// sum: bit by bit.
func sum(m poly.Poly, b []byte) poly.Poly {
	var s poly.Poly
	for _, x := range b {
		for i := 7; i >= 0; i-- {
			s = s<<1 | poly.Poly(x>>i&1)
			if s>>m.Deg() == 1 {
				s ^= m
			}
		}
	}
	return s
}

// first: how many bytes b's first piece has, by the document's words.
func first(r cut.Rule, b []byte) int {
	for n := 1; n < len(b); n++ {
		if n == r.Most {
			return n
		}
		if n < r.Least {
			continue
		}
		ones := true
		s := sum(r.Poly, b[n-64:n])
		for i := range r.Bits {
			ones = ones && s>>i&1 == 1
		}
		if ones {
			return n
		}
	}
	return len(b)
}

// pieces: those of b, by the document's words.
func pieces(r cut.Rule, b []byte) [][]byte {
	var l [][]byte
	for len(b) > 0 {
		n := first(r, b)
		l = append(l, b[:n])
		b = b[n:]
	}
	return l
}

func sizes(l [][]byte) []int {
	var n []int
	for _, b := range l {
		n = append(n, len(b))
	}
	return n
}

func same(a, b [][]byte) bool {
	return slices.EqualFunc(a, b, bytes.Equal)
}

func made(t *testing.T, r cut.Rule) *cut.Knife {
	t.Helper()
	k, e := cut.New(r)
	if k == nil || e != api.OK {
		t.Fatal("New", r, k, e)
	}
	return k
}

func sized(t *testing.T, r cut.Rule, b []byte) []int {
	t.Helper()
	n, e := cut.Sizes(r, b)
	if e != api.OK {
		t.Fatal("Sizes", r, len(b), e)
	}
	return n
}

// all: the pieces that a knife tells, the last one, too.
func all(k *cut.Knife, parts ...[]byte) [][]byte {
	l := k.Feed(parts...)
	if last, ok := k.End(); ok {
		l = append(l, last)
	}
	return l
}

// P5.1: the document's example: noughts have no bit that is 1, so Most cuts, whatever Bits is.
func TestExample(t *testing.T) {
	for n := 1; n <= 20; n++ {
		r := cut.Rule{Least: 64, Most: 100, Bits: n, Poly: prime}
		b := make([]byte, 250)
		if got := sized(t, r, b); !slices.Equal(got, []int{100, 100, 50}) {
			t.Error(n, got)
		}
		if got := all(made(t, r), b); !slices.Equal(sizes(got), []int{100, 100, 50}) {
			t.Error(n, sizes(got))
		}
	}
}

// P5.1: Sizes and a knife tell the pieces of the document's words, by all kinds of rules.
func TestPieces(t *testing.T) {
	b := some(1, 6000)
	for _, r := range rules() {
		for _, n := range []int{1, 2, 63, 64, 65, 100, 128, 129, 130, 1000, 6000} {
			want := pieces(r, b[:n])
			if got := sized(t, r, b[:n]); !slices.Equal(got, sizes(want)) {
				t.Error("Sizes", r, n, got)
			}
			if got := all(made(t, r), b[:n]); !same(got, want) {
				t.Error("Feed, End", r, n, sizes(got))
			}
		}
	}
}

// P5.1: by the rules of these tests pieces end at Least, at Most, and between; else the tests would say little.
func TestRulesCut(t *testing.T) {
	b := some(1, 6000)
	var least, most, between int
	for _, r := range rules() {
		for _, n := range sized(t, r, b) {
			switch {
			case n == r.Most:
				most++
			case n == r.Least:
				least++
			case n > r.Least:
				between++
			}
		}
	}
	if least < 50 || most < 50 || between < 50 {
		t.Error(least, most, between)
	}
}

// P5.1: of no bytes there are no pieces.
func TestNoBytes(t *testing.T) {
	r := rules()[0]
	for _, b := range [][]byte{nil, {}} {
		if got := sized(t, r, b); len(got) != 0 {
			t.Error(got)
		}
	}
	k := made(t, r)
	if got := k.Feed(); len(got) != 0 {
		t.Error(got)
	}
	if got := k.Feed(nil, []byte{}, nil); len(got) != 0 {
		t.Error(got)
	}
	if last, ok := k.End(); ok || last != nil {
		t.Error(last, ok)
	}
}

// tailed: 64 bytes whose sum ends in these 24 bits.
func tailed(m poly.Poly, seed int64, bits poly.Poly) []byte {
	b := append(some(seed, 61), 0, 0, 0)
	bits ^= sum(m, b)
	b[61], b[62], b[63] = byte(bits>>16), byte(bits>>8), byte(bits)
	return b
}

// P5.1: just the lowest Bits bits count, and all of them, whatever Bits is.
func TestBits(t *testing.T) {
	for _, m := range []poly.Poly{1<<24 | 0x1b, prime, 1<<63 | 1} {
		for n := 1; n <= 20; n++ {
			r := cut.Rule{Least: 64, Most: 65536, Bits: n, Poly: m}
			ones := poly.Poly(1)<<n - 1
			for i, above := range []poly.Poly{0, 1<<24 - 1, 0x5a5a5a} {
				b := append(tailed(m, int64(n), above&^ones|ones), make([]byte, 64)...)
				if got := sized(t, r, b); got[0] != 64 {
					t.Errorf("modulo %x, %d bits are 1: %v (%d)", m, n, got, i)
				}
				for one := range n {
					b := tailed(m, int64(n), above&^ones|ones&^(1<<one))
					if got := all(made(t, r), b[:64], []byte{0}); len(got[0]) == 64 {
						t.Errorf("modulo %x, bit %d of %d is 0: cut (%d)", m, one, n, i)
					}
				}
			}
		}
	}
}

// P5.1: ahead of Least nothing is cut, at Least it may be.
func TestLeast(t *testing.T) {
	for _, ahead := range []int{0, 1, 2, 36, 100} {
		b := append(make([]byte, ahead), tailed(prime, 3, 0xfff)...)
		b = append(b, make([]byte, 20)...)
		end := ahead + 64
		for least := 64; least < end+5; least++ {
			r := cut.Rule{Least: least, Most: 65536, Bits: 12, Poly: prime}
			want := len(b)
			if least <= end {
				want = end
			}
			if got := sized(t, r, b); got[0] != want {
				t.Error(ahead, least, got)
			}
		}
	}
}

// P5.1: at Most it is cut, not ahead of it, not behind it; the greatest Least and Most are no others.
func TestMost(t *testing.T) {
	for _, x := range []struct{ least, most int }{{64, 64}, {64, 65}, {64, 1000}, {65536, 65536}, {1000, 65536}} {
		r := cut.Rule{Least: x.least, Most: x.most, Bits: 20, Poly: prime}
		for _, more := range []int{-1, 0, 1} {
			want := []int{x.most}
			if more < 0 {
				want = []int{x.most - 1}
			} else if more > 0 {
				want = []int{x.most, 1}
			}
			if got := sized(t, r, make([]byte, x.most+more)); !slices.Equal(got, want) {
				t.Error(x, more, got)
			}
		}
	}
}

// P5.1, and rule 2: the edges of what a rule may have; beside ErrArg there is nothing.
func TestRuleEdges(t *testing.T) {
	good := func(r cut.Rule) {
		t.Helper()
		made(t, r)
		sized(t, r, []byte{1})
	}
	bad := func(r cut.Rule) {
		t.Helper()
		if k, e := cut.New(r); k != nil || e != api.ErrArg {
			t.Error("New", r, k, e)
		}
		for _, b := range [][]byte{nil, make([]byte, 300)} {
			if n, e := cut.Sizes(r, b); n != nil || e != api.ErrArg {
				t.Error("Sizes", r, n, e)
			}
		}
	}
	bad(cut.Rule{})
	for _, n := range []int{64, 65, 65536} {
		good(cut.Rule{n, 65536, 13, prime})
		good(cut.Rule{64, n, 13, prime})
		good(cut.Rule{n, n, 13, prime})
	}
	for _, n := range []int{math.MinInt, -64, 0, 1, 63, 65537, math.MaxInt} {
		bad(cut.Rule{n, 65536, 13, prime})
		bad(cut.Rule{64, n, 13, prime})
		bad(cut.Rule{n, n, 13, prime})
	}
	bad(cut.Rule{65, 64, 13, prime})
	bad(cut.Rule{65536, 65535, 13, prime})
	bad(cut.Rule{65537, 65538, 13, prime})
	for _, n := range []int{1, 20} {
		good(cut.Rule{64, 128, n, prime})
	}
	for _, n := range []int{math.MinInt, -1, 0, 21, 64, math.MaxInt} {
		bad(cut.Rule{64, 128, n, prime})
	}
	for _, m := range []poly.Poly{1 << 24, 1<<25 - 1, 1 << 63, math.MaxUint64} {
		good(cut.Rule{64, 128, 13, m})
	}
	for _, m := range []poly.Poly{0, 1, 2, 1 << 8, 1 << 23, 1<<24 - 1} {
		bad(cut.Rule{64, 128, 13, m})
	}
}

// P5.2: however the bytes come, the pieces are the same, and they are the bytes.
func TestShares(t *testing.T) {
	b := some(4, 3000)
	chance := rand.New(rand.NewSource(5))
	for _, r := range rules() {
		want := pieces(r, b)
		for range 20 {
			k := made(t, r)
			var got [][]byte
			for rest := b; len(rest) > 0; {
				var parts [][]byte
				for range chance.Intn(5) {
					n := min(chance.Intn(1+chance.Intn(200)), len(rest))
					parts = append(parts, rest[:n])
					rest = rest[n:]
				}
				got = append(got, k.Feed(parts...)...)
			}
			if last, ok := k.End(); ok {
				got = append(got, last)
			}
			if !same(got, want) || !bytes.Equal(bytes.Join(got, nil), b) {
				t.Fatal(r, sizes(got), "not", sizes(want))
			}
		}
	}
}

// P5.1: a piece is told as soon as it is whole, whatever comes behind: not a byte later, and no byte sooner.
func TestToldAtOnce(t *testing.T) {
	b := some(6, 2000)
	for _, r := range rules() {
		k := made(t, r)
		from := 0
		for i := range b {
			got := k.Feed(b[i : i+1])
			// Another byte behind it shows whether the piece would have gone on.
			whole := first(r, append(bytes.Clone(b[from:i+1]), 0)) == i+1-from
			if whole != (len(got) == 1) || len(got) > 1 {
				t.Fatal(r, i, sizes(got))
			}
			if whole {
				if !bytes.Equal(got[0], b[from:i+1]) {
					t.Fatal(r, i, "other bytes")
				}
				from = i + 1
			}
		}
	}
	k := made(t, cut.Rule{Least: 64, Most: 100, Bits: 20, Poly: prime})
	if got := k.Feed(make([]byte, 100)); len(got) != 1 {
		t.Error("just Most bytes:", sizes(got))
	}
	if last, ok := k.End(); ok || last != nil {
		t.Error("behind them:", last, ok)
	}
}

// P5.1: End tells what is left once; the knife is as new behind it, whatever came ahead.
func TestEnd(t *testing.T) {
	b := some(7, 1500)
	for _, r := range rules() {
		want := pieces(r, b)
		k := made(t, r)
		for _, n := range []int{0, 1, 63, 64, 65, 99, 100, 101, 700} {
			ahead := pieces(r, b[:n])
			if got := all(k, b[:n]); !same(got, ahead) {
				t.Error(r, n, sizes(got))
			}
			if k.Sum() != 0 {
				t.Error(r, n, "its roll isn't as new")
			}
			if last, ok := k.End(); ok || last != nil {
				t.Error(r, n, "a second end:", last, ok)
			}
			if got := all(k, b); !same(got, want) {
				t.Error(r, n, "not as new:", sizes(got))
			}
		}
	}
}

// P5.3: behind each end of a piece the pieces are those of the rest alone.
func TestRestAlone(t *testing.T) {
	b := some(8, 4000)
	for _, r := range rules() {
		n := sized(t, r, b)
		at := 0
		for i := range n {
			if got := sized(t, r, b[at:]); !slices.Equal(got, n[i:]) {
				t.Fatal(r, i, got)
			}
			if got := all(made(t, r), b[at:]); !slices.Equal(sizes(got), n[i:]) {
				t.Fatal(r, i, sizes(got))
			}
			at += n[i]
		}
	}
}

// P5.3, and P7: what is put in or taken out near the begin leaves the pieces far behind as they were.
func TestChangesStayNear(t *testing.T) {
	b := some(9, 60000)
	r := cut.Rule{Least: 64, Most: 2000, Bits: 7, Poly: prime}
	was := map[string]bool{}
	for _, p := range all(made(t, r), b) {
		was[string(p)] = true
	}
	for i, changed := range [][]byte{append([]byte{1}, b...), b[1:], slices.Concat(b[:500], []byte("more"), b[500:]), slices.Concat(b[:500], b[777:])} {
		l := all(made(t, r), changed)
		fresh := 0
		for _, p := range l {
			if !was[string(p)] {
				fresh++
			}
		}
		if len(l) < 100 || fresh == 0 || fresh > 20 {
			t.Error(i, "of", len(l), "pieces new:", fresh)
		}
	}
}

// P5.4: bytes and lists that are handed in stay as they are, their spare room too.
func TestNothingIsChanged(t *testing.T) {
	r := rules()[2]
	room := some(10, 800)
	was := bytes.Clone(room)
	list := make([][]byte, 3, 6)
	for i := range list[:6] {
		list[:6][i] = room[:330]
	}
	k := made(t, r)
	for _, p := range all(k, list...) {
		_ = append(p, 1)
		clear(p[:cap(p)])
	}
	sized(t, r, room[:330])
	if !bytes.Equal(room, was) {
		t.Error("bytes are changed")
	}
	for i, x := range list[:6] {
		if len(x) != 330 || cap(x) != 800 || &x[0] != &room[0] {
			t.Error("the list is changed", i)
		}
	}
}

// P5.4: parts aren't kept: what is done to them behind the call doesn't come back.
func TestNothingIsKept(t *testing.T) {
	b := some(11, 1000)
	for _, r := range rules() {
		k := made(t, r)
		var got [][]byte
		for at := 0; at < len(b); at += 50 {
			part := bytes.Clone(b[at : at+50])
			got = append(got, k.Feed(part[:20], part[20:])...)
			clear(part)
		}
		if last, ok := k.End(); ok {
			got = append(got, last)
		}
		if !same(got, pieces(r, b)) {
			t.Error(r, sizes(got))
		}
	}
}

// P5.4: answers are new memory: they share none with one another, nor with the knife; their spare room neither.
func TestAnswersAreNew(t *testing.T) {
	b := some(12, 2000)
	for _, r := range rules() {
		k := made(t, r)
		want := pieces(r, b)
		var got, kept [][]byte
		take := func(l [][]byte) {
			for _, p := range l {
				kept = append(kept, bytes.Clone(p))
			}
			for i, p := range l {
				for j := range p[:cap(p)] {
					p[:cap(p)][j] = byte(77 + i)
				}
			}
			got = append(got, l...)
			for i, p := range l {
				if slices.ContainsFunc(p, func(x byte) bool { return x != byte(77+i) }) {
					t.Fatal(r, "pieces share memory")
				}
			}
		}
		for at := 0; at < len(b); at += 500 {
			take(k.Feed(b[at : at+500]))
		}
		if last, ok := k.End(); ok {
			take([][]byte{last})
		}
		if !same(kept, want) || len(got) != len(want) {
			t.Error(r, sizes(kept))
		}
		if again := all(k, b); !same(again, want) {
			t.Error(r, "again:", sizes(again))
		}
	}
}

// P1, P5.1: a nil knife tells nothing; its roll's calls end, too.
func TestNilKnife(t *testing.T) {
	var k *cut.Knife
	if got := k.Feed(); got != nil {
		t.Error(got)
	}
	if got := k.Feed([]byte{1}, make([]byte, 500)); got != nil {
		t.Error(got)
	}
	if last, ok := k.End(); last != nil || ok {
		t.Error(last, ok)
	}
	k.Clear()
	if a, b := k.Push(1, 2), k.Sum(); a != 0 || b != 0 {
		t.Error(a, b)
	}
}

// P1: whatever is done to a knife by its roll's calls, and of whatever roll it has, or if nobody made it: all calls end, and lose no byte.
func TestStrangeKnives(t *testing.T) {
	b := some(13, 700)
	pushed := made(t, rules()[3])
	pushed.Push(b...)
	bare := made(t, rules()[3])
	bare.Roll = nil
	other := made(t, rules()[3])
	other.Roll, _ = roll.New(0x11b, 7)
	for i, k := range []*cut.Knife{{}, pushed, bare, other} {
		got := k.Feed(b[:300])
		k.Push(1)
		k.Sum()
		k.Clear()
		got = append(got, k.Feed(b[300:])...)
		if last, ok := k.End(); ok {
			got = append(got, last)
		}
		if !bytes.Equal(bytes.Join(got, nil), b) {
			t.Error(i, sizes(got))
		}
	}
}

// P5.1: a knife embeds a roll.
func TestKnifeHasARoll(t *testing.T) {
	k := made(t, rules()[0])
	if k.Roll == nil {
		t.Fatal("no roll")
	}
}

// Rule 5: knives don't disturb one another.
func TestKnivesApart(t *testing.T) {
	b := some(14, 1000)
	r := rules()[3]
	a, other := made(t, r), made(t, r)
	got := a.Feed(b[:500])
	other.Feed(b[300:])
	other.End()
	got = append(got, a.Feed(b[500:])...)
	if last, ok := a.End(); ok {
		got = append(got, last)
	}
	if !same(got, pieces(r, b)) {
		t.Error(sizes(got))
	}
}
