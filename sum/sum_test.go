package sum_test

import (
	"bytes"
	"crypto/hmac"
	"crypto/sha256"
	"encoding/hex"
	"math"
	"math/rand"
	"strings"
	"testing"

	"hypogeum/sum"
)

// some: bytes that look like chance, the same ones each time.
func some(seed int64, n int) []byte {
	b := make([]byte, n)
	rand.New(rand.NewSource(seed)).Read(b)
	return b
}

func oracle(key []byte, parts ...[]byte) [32]byte {
	m := hmac.New(sha256.New, key)
	for _, p := range parts {
		m.Write(p)
	}
	return [32]byte(m.Sum(nil))
}

func fromHex(t *testing.T, s string) []byte {
	t.Helper()
	b, err := hex.DecodeString(s)
	if err != nil {
		t.Fatal(err)
	}
	return b
}

// P1.1: Of, by the examples of FIPS 180-4 and of the document.
func TestOfExamples(t *testing.T) {
	for _, x := range []struct{ text, want string }{
		{"", "e3b0c44298fc1c149afbf4c8996fb92427ae41e4649b934ca495991b7852b855"},
		{"abc", "ba7816bf8f01cfea414140de5dae2223b00361a396177a9cb410ff61f20015ad"},
		{"abcdbcdecdefdefgefghfghighijhijkijkljklmklmnlmnomnopnopq", "248d6a61d20638b8e5c026930c3e6039a33ce45964ff2167f6ecedd419db06c1"},
		{strings.Repeat("a", 1000000), "cdc76e5c9914fb9281a1c7e284d73e67f1809a48a497200e046d39ccc7112cd0"},
	} {
		if got := sum.Of([]byte(x.text)); hex.EncodeToString(got[:]) != x.want {
			t.Errorf("Of of %d bytes: %x", len(x.text), got)
		}
	}
	if sum.Of() != sum.Of(nil) || sum.Of() != sha256.Sum256(nil) {
		t.Error("Of of no parts isn't that of no bytes")
	}
}

// P1.1: Of, at each count of bytes around the ends of blocks.
func TestOfAllLengths(t *testing.T) {
	b := some(1, 400)
	for n := range len(b) {
		if got, want := sum.Of(b[:n]), sha256.Sum256(b[:n]); got != want {
			t.Errorf("Of of %d bytes: %x, not %x", n, got, want)
		}
	}
	b = some(2, 1<<20+17)
	if sum.Of(b) != sha256.Sum256(b) {
		t.Error("Of of many bytes")
	}
}

// P1.1: Keyed, by the examples of RFC 4231.
func TestKeyedExamples(t *testing.T) {
	for i, x := range []struct{ key, text, want string }{
		{strings.Repeat("\x0b", 20), "Hi There", "b0344c61d8db38535ca8afceaf0bf12b881dc200c9833da726e9376c2e32cff7"},
		{"Jefe", "what do ya want for nothing?", "5bdcc146bf60754e6a042426089575c75a003f089d2739839dec58b964ec3843"},
		{strings.Repeat("\xaa", 20), strings.Repeat("\xdd", 50), "773ea91e36800e46854db8ebd09181a72959098b3ef8c122d9635514ced565fe"},
		{strings.Repeat("\xaa", 131), "Test Using Larger Than Block-Size Key - Hash Key First", "60e431591ee0b67f0d8a26aacbf5b77f8e0bc6213728c5140546040f0ee37f54"},
	} {
		if got := sum.Keyed([]byte(x.key), []byte(x.text)); !bytes.Equal(got[:], fromHex(t, x.want)) {
			t.Errorf("Keyed, example %d: %x", i, got)
		}
	}
}

// P1.1: Keyed, at all counts of a key's bytes around 64, the edge behind which it is its Of.
func TestKeyedAllKeys(t *testing.T) {
	b := some(3, 300)
	for n := range 200 {
		if got, want := sum.Keyed(b[:n], b[n:], b[:7]), oracle(b[:n], b[n:], b[:7]); got != want {
			t.Errorf("Keyed by %d bytes: %x, not %x", n, got, want)
		}
	}
	for _, n := range []int{0, 1, 55, 56, 63, 64, 65, 200} {
		if got, want := sum.Keyed(b[:5], b[:n]), oracle(b[:5], b[:n]); got != want {
			t.Errorf("Keyed of %d bytes: %x, not %x", n, got, want)
		}
	}
	if sum.Keyed(nil) != oracle(nil) || sum.Keyed([]byte{}, nil) != oracle(nil) {
		t.Error("Keyed by no key of nothing")
	}
	of := sum.Of(b[:65])
	if sum.Keyed(b[:65], b) != sum.Keyed(of[:], b) {
		t.Error("a key of 65 bytes isn't its Of")
	}
	of = sum.Of(b[:64])
	if sum.Keyed(b[:64], b) == sum.Keyed(of[:], b) {
		t.Error("a key of 64 bytes is its Of")
	}
}

// P1.1: Text has the higher four bits of each byte first.
func TestText(t *testing.T) {
	if got := sum.Text([32]byte{}); got != strings.Repeat("0", 64) {
		t.Error(got)
	}
	for i := range 256 {
		s := [32]byte{byte(i), 31: byte(255 - i)}
		if got := sum.Text(s); got != hex.EncodeToString(s[:]) {
			t.Error(i, got)
		}
	}
}

// P1.1: Read reads each Text.
func TestRead(t *testing.T) {
	for i := range 256 {
		s := [32]byte(bytes.Repeat([]byte{byte(i), byte(i * 7)}, 16))
		if got, ok := sum.Read(sum.Text(s)); !ok || got != s {
			t.Errorf("Read of the Text of %x: %x, %v", s, got, ok)
		}
	}
}

// P1.1, and rule 2: what is no Text is told by false, with a sum of noughts beside it.
func TestReadWrong(t *testing.T) {
	good := sum.Text(sum.Of([]byte("abc")))
	wrong := []string{"", "b", good[:63], good[:62], good + "0", good + "00", " " + good[1:], good + " ", strings.ToUpper(good), "0x" + good[2:], strings.Repeat("é", 32)}
	for at := range 64 {
		for _, c := range []byte{'A', 'F', 'g', 'G', '/', ':', '`', '@', 0, 255} {
			wrong = append(wrong, good[:at]+string([]byte{c})+good[at+1:])
		}
	}
	for _, s := range wrong {
		if got, ok := sum.Read(s); ok || got != [32]byte{} {
			t.Errorf("Read(%q) = %x, %v", s, got, ok)
		}
	}
}

// P1.1: Same holds all others against the first.
func TestSame(t *testing.T) {
	a := []byte("abc")
	for i, x := range []struct {
		first  []byte
		others [][]byte
		want   bool
	}{
		{a, nil, true},
		{nil, nil, true},
		{nil, [][]byte{nil, {}}, true},
		{[]byte{}, [][]byte{nil}, true},
		{a, [][]byte{[]byte("abc"), a, []byte("abc")}, true},
		{a, [][]byte{[]byte("abd")}, false},
		{a, [][]byte{[]byte("bbc")}, false},
		{a, [][]byte{[]byte("ab")}, false},
		{a, [][]byte{[]byte("abc\x00")}, false},
		{a, [][]byte{nil}, false},
		{nil, [][]byte{a}, false},
		{a, [][]byte{[]byte("abd"), a}, false},
		{a, [][]byte{a, []byte("abd")}, false},
		{a, [][]byte{[]byte("abd"), []byte("abd")}, false},
		{a, [][]byte{[]byte("abcd"), a}, false},
		{a, [][]byte{[]byte("abd"), []byte("ab`")}, false},
	} {
		if got := sum.Same(x.first, x.others...); got != x.want {
			t.Errorf("%d: Same(%q, %q) = %v", i, x.first, x.others, got)
		}
	}
	for at := range 32 {
		for bit := range 8 {
			b := make([]byte, 32)
			b[at] = 1 << bit
			if sum.Same(make([]byte, 32), b) {
				t.Error("unlike in one bit", at, bit)
			}
		}
	}
}

func stretched(word, salt []byte, steps int) [32]byte {
	x := oracle(word, salt)
	for range steps {
		for i, y := range oracle(word, x[:]) {
			x[i] ^= y
		}
	}
	return x
}

// P1.1: Stretch is the loop that the document says; the word's count of bytes is any.
func TestStretch(t *testing.T) {
	for _, n := range []int{0, 1, 32, 64, 65, 200} {
		word, salt := some(4, n), some(5, n/2)
		for _, steps := range []int{0, 1, 2, 3, 100} {
			if got, want := sum.Stretch(word, salt, steps), stretched(word, salt, steps); got != want {
				t.Errorf("Stretch of %d bytes by %d steps: %x, not %x", n, steps, got, want)
			}
		}
	}
}

// P1.1: below 1 step there is none; above 100000 there are as many as that.
func TestStretchEdges(t *testing.T) {
	word, salt := []byte("word"), []byte("salt")
	for _, steps := range []int{0, -1, math.MinInt} {
		if sum.Stretch(word, salt, steps) != oracle(word, salt) {
			t.Error(steps, "steps aren't none")
		}
	}
	most := stretched(word, salt, 100000)
	for _, steps := range []int{100000, 100001, math.MaxInt} {
		if sum.Stretch(word, salt, steps) != most {
			t.Error(steps, "steps aren't 100000")
		}
	}
	if sum.Stretch(word, salt, 99999) == most {
		t.Error("99999 steps are 100000")
	}
}

// P1: a long word, and as many steps as there may be, come to their end.
func TestStretchEnds(t *testing.T) {
	word := some(6, 1<<22)
	of := sha256.Sum256(word)
	if sum.Stretch(word, nil, math.MaxInt) != stretched(of[:], nil, 100000) {
		t.Error("a long word")
	}
}

// P1.2: wherever the bytes are parted, the sum is the same.
func TestPartsAreNothing(t *testing.T) {
	b := some(7, 200)
	key := b[:20]
	of, keyed := sha256.Sum256(b), oracle(key, b)
	for i := range len(b) + 1 {
		for _, j := range []int{i, min(i+1, len(b)), min(i+63, len(b)), min(i+64, len(b)), len(b)} {
			parts := [][]byte{b[:i], nil, b[i:j], {}, b[j:]}
			if sum.Of(parts...) != of {
				t.Error("Of", i, j)
			}
			if sum.Keyed(key, parts...) != keyed {
				t.Error("Keyed", i, j)
			}
		}
	}
	var single [][]byte
	for i := range b {
		single = append(single, b[i:i+1])
	}
	if sum.Of(single...) != of || sum.Keyed(key, single...) != keyed {
		t.Error("byte by byte")
	}
}

// P1.3: bytes and lists that are handed in stay as they are, their spare room too.
func TestNothingIsChanged(t *testing.T) {
	for _, n := range []int{0, 1, 40, 64, 65, 130} {
		room := some(8, n+300)
		was := bytes.Clone(room)
		b := room[:n]
		list := make([][]byte, 4, 8)
		for i := range list[:8] {
			list[:8][i] = b
		}
		sum.Of(list...)
		sum.Keyed(b, list...)
		sum.Same(b, list...)
		sum.Stretch(b, b, 3)
		if !bytes.Equal(room, was) {
			t.Error(n, "bytes are changed")
		}
		for i, x := range list[:8] {
			if len(x) != n || cap(x) != cap(b) || &x[:1][0] != &room[0] {
				t.Error(n, "the list is changed", i)
			}
		}
	}
}

// P1.3, and rule 5: nothing is kept: what is done to an argument behind a call doesn't come back, and a call's answer hangs on its arguments alone.
func TestNothingIsKept(t *testing.T) {
	key, b := some(9, 100), some(10, 100)
	of, keyed, far := sum.Of(b), sum.Keyed(key, b), sum.Stretch(key, b, 5)
	other := some(11, 100)
	sum.Of(other)
	sum.Keyed(other, other)
	sum.Stretch(other, other, 7)
	sum.Read("no sum")
	for i := range b {
		b[i], key[i] = ^b[i], ^key[i]
	}
	if sum.Of(b) == of || sum.Keyed(key, b) == keyed || sum.Stretch(key, b, 5) == far {
		t.Error("the answer of other bytes is the same")
	}
	for i := range b {
		b[i], key[i] = ^b[i], ^key[i]
	}
	if sum.Of(b) != of || sum.Keyed(key, b) != keyed || sum.Stretch(key, b, 5) != far {
		t.Error("the answer of the same bytes is another one")
	}
}
