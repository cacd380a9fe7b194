package key_test

import (
	"bytes"
	"crypto/hmac"
	"crypto/sha256"
	"math"
	"math/rand"
	"testing"

	"hypogeum/api"
	"hypogeum/key"
)

const mostSteps = 100000

// some: bytes that look like chance, the same ones each time.
func some(seed int64, n int) []byte {
	b := make([]byte, n)
	rand.New(rand.NewSource(seed)).Read(b)
	return b
}

// keyed: HMAC, as the library makes it.
func keyed(k []byte, parts ...[]byte) (s [32]byte) {
	m := hmac.New(sha256.New, k)
	for _, b := range parts {
		m.Write(b)
	}
	return [32]byte(m.Sum(nil))
}

// oracle: a ring, by the document's words.
func oracle(word, salt []byte, steps int) (r key.Ring) {
	s := keyed(word, salt)
	for range steps {
		for i, y := range keyed(word, s[:]) {
			s[i] ^= y
		}
	}
	r.Hide, r.Mark, r.Name = keyed(s[:], []byte("hide")), keyed(s[:], []byte("mark")), keyed(s[:], []byte("name"))
	return r
}

func made(t *testing.T, word string, salt []byte, steps int) key.Ring {
	t.Helper()
	r, e := key.Make([]byte(word), salt, steps)
	if e != api.OK {
		t.Fatal("Make", e)
	}
	return r
}

// ring: of a word, by a salt of noughts, without steps.
func ring(t *testing.T, word string) key.Ring {
	t.Helper()
	return made(t, word, make([]byte, 16), 0)
}

// P11.1: the document's example, and the other wrong words, salts and steps; beside the error there is no ring.
func TestMakeWrong(t *testing.T) {
	word, salt := []byte("word"), make([]byte, 16)
	for i, x := range []struct {
		word, salt []byte
		steps      int
	}{
		{nil, salt, 0}, {[]byte{}, salt, 1}, {word[:0], salt, 0},
		{word, nil, 0}, {word, salt[:15], 0}, {word, make([]byte, 17), 0}, {word, make([]byte, 32), 0},
		{word, salt, -1}, {word, salt, mostSteps + 1}, {word, salt, math.MinInt}, {word, salt, math.MaxInt},
		{nil, nil, -1},
	} {
		if r, e := key.Make(x.word, x.salt, x.steps); r != (key.Ring{}) || e != api.ErrArg {
			t.Error("Make", i, r, e)
		}
		if r, e := key.Fit(x.word, x.salt, x.steps, nil); r != (key.Ring{}) || e != api.ErrArg {
			t.Error("Fit", i, r, e)
		}
	}
}

// P11.1: all keys of a word, by its sum, its salt and its steps.
func TestMake(t *testing.T) {
	for i, n := range []int{1, 2, 32, 63, 64, 65, 1000} {
		word, salt := some(int64(n), n), some(int64(-n), 16)
		for _, steps := range []int{0, 1, 2, 100} {
			if r, e := key.Make(word, salt, steps); r != oracle(word, salt, steps) || e != api.OK {
				t.Error(i, steps, r, e)
			}
		}
	}
	if ring(t, "\x00") != oracle([]byte{0}, make([]byte, 16), 0) {
		t.Error("a word that is a nought")
	}
}

// P11.1: so many steps, and not one less.
func TestMakeMost(t *testing.T) {
	word, salt := []byte("word"), some(1, 16)
	for _, steps := range []int{mostSteps - 1, mostSteps} {
		if made(t, "word", salt, steps) != oracle(word, salt, steps) {
			t.Error(steps)
		}
	}
}

// P11.1: each key is another one, and hangs on all that it is made of.
func TestKeysAreUnlike(t *testing.T) {
	salt := some(2, 16)
	r := made(t, "word", salt, 5)
	if r.Hide == r.Mark || r.Mark == r.Name || r.Name == r.Hide {
		t.Error("one key twice")
	}
	for i, o := range []key.Ring{made(t, "wore", salt, 5), made(t, "word", some(3, 16), 5), made(t, "word", salt, 6)} {
		if r.Hide == o.Hide || r.Mark == o.Mark || r.Name == o.Name {
			t.Error("the same key of another thing", i)
		}
	}
}

// P11.1: names, by the key and the kind; how bytes are shared out among parts is nothing.
func TestId(t *testing.T) {
	r := ring(t, "word")
	for _, n := range []int{0, 1, 63, 64, 200} {
		b := some(int64(n), n)
		for _, kind := range []byte{0, 1, 2, 255} {
			want := api.Id(keyed(r.Name[:], []byte{kind}, b))
			for i := range n + 1 {
				if r.Id(kind, b[:i], nil, b[i:]) != want {
					t.Fatal(n, kind, i)
				}
			}
			if r.Id(kind, b) != want {
				t.Error(n, kind)
			}
		}
	}
	if r.Id(7) != api.Id(keyed(r.Name[:], []byte{7})) || r.Id(7, nil, []byte{}) != r.Id(7) {
		t.Error("no bytes")
	}
	if r.Id(1, []byte("a")) == r.Id(2, []byte("a")) || r.Id(1, []byte("a")) == ring(t, "other").Id(1, []byte("a")) {
		t.Error("one name of two")
	}
}

// P11.1: Id needs the key Name alone; a ring that nobody made names, too.
func TestIdByName(t *testing.T) {
	r := ring(t, "word")
	if (key.Ring{Name: r.Name}).Id(1, []byte("a")) != r.Id(1, []byte("a")) {
		t.Error("by more than Name")
	}
	if (key.Ring{}).Id(1, []byte("a")) != api.Id(keyed(nil, []byte{1}, []byte("a"))) {
		t.Error("by noughts")
	}
}

// P11.1: a ring has its keys' calls.
func TestRingSeals(t *testing.T) {
	r := ring(t, "word")
	b, e := r.Seal(1, "n", [16]byte{3}, []byte("bytes"))
	want, _ := r.Keys.Seal(1, "n", [16]byte{3}, []byte("bytes"))
	if e != api.OK || !bytes.Equal(b, want) {
		t.Error(b, e)
	}
	if got, e := r.Open(1, "n", b); string(got) != "bytes" || e != api.OK {
		t.Error(got, e)
	}
	if _, e := ring(t, "other").Open(1, "n", b); e != api.ErrCorrupt {
		t.Error("by another ring", e)
	}
}

// P11.3: what is handed in stays as it is, its spare room too, and isn't kept.
func TestNothingIsChanged(t *testing.T) {
	room := some(4, 400)
	was := bytes.Clone(room)
	word, salt, part := room[:50], room[100:116], room[200:240]
	r, _ := key.Make(word, salt, 3)
	proof, _ := key.Pen{Ring: r}.Proof()
	kept := bytes.Clone(proof)
	list := make([][]byte, 3, 6)
	for i := range list[:6] {
		list[:6][i] = part
	}
	r.Id(1, list...)
	r.Id(1, list[:1]...)
	key.Pen{Ring: r}.Write(1, "n", list...)
	if _, e := key.Fit(word, salt, 3, proof); e != api.OK || !bytes.Equal(proof, kept) {
		t.Error("the proof is changed", e)
	}
	if !bytes.Equal(room, was) {
		t.Error("bytes are changed")
	}
	for i, x := range list[:6] {
		if len(x) != 40 || &x[0] != &part[0] {
			t.Error("the list is changed", i)
		}
	}
	id := r.Id(1, part)
	clear(room)
	if r != oracle(was[:50], was[100:116], 3) || r.Id(1, was[200:240]) != id || r.Id(1, part) == id {
		t.Error("something is kept")
	}
}
