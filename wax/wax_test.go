package wax_test

import (
	"bytes"
	"crypto/aes"
	"crypto/cipher"
	"crypto/hmac"
	"crypto/sha256"
	"math/rand"
	"strings"
	"testing"

	"hypogeum/api"
	"hypogeum/wax"
)

// some: bytes that look like chance, the same ones each time.
func some(seed int64, n int) []byte {
	b := make([]byte, n)
	rand.New(rand.NewSource(seed)).Read(b)
	return b
}

// keys: two keys, unlike for each seed.
func keys(seed int64) wax.Keys {
	return wax.Keys{Hide: [32]byte(some(2*seed, 32)), Mark: [32]byte(some(2*seed+1, 32))}
}

// marked: what has a right mark, whether Seal would make it or not: by the document's words and the library's sums.
func marked(k wax.Keys, kind byte, name string, nonce [16]byte, hidden []byte) []byte {
	m := hmac.New(sha256.New, k.Mark[:])
	m.Write([]byte{kind, byte(len(name))})
	m.Write([]byte(name))
	m.Write(nonce[:])
	m.Write(hidden)
	return m.Sum(append(nonce[:], hidden...))
}

// oracle: a seal, by the document's words and the library's sums and ciphers.
func oracle(t *testing.T, k wax.Keys, kind byte, name string, nonce [16]byte, plain []byte) []byte {
	t.Helper()
	c, err := aes.NewCipher(k.Hide[:])
	if err != nil {
		t.Fatal(err)
	}
	hidden := make([]byte, len(plain))
	cipher.NewCTR(c, nonce[:]).XORKeyStream(hidden, plain)
	return marked(k, kind, name, nonce, hidden)
}

func sealed(t *testing.T, k wax.Keys, kind byte, name string, nonce [16]byte, parts ...[]byte) []byte {
	t.Helper()
	b, e := k.Seal(kind, name, nonce, parts...)
	if e != api.OK {
		t.Fatal("Seal", e)
	}
	return b
}

func checkOpen(t *testing.T, k wax.Keys, kind byte, name string, b, want []byte) {
	t.Helper()
	if got, e := k.Open(kind, name, b); e != api.OK || !bytes.Equal(got, want) {
		t.Errorf("Open: %d bytes, %d", len(got), e)
	}
}

// checkShut: Open answers this error, and nothing beside it.
func checkShut(t *testing.T, k wax.Keys, kind byte, name string, b []byte, want api.Errno) {
	t.Helper()
	if got, e := k.Open(kind, name, b); got != nil || e != want {
		t.Errorf("Open of %d bytes: %d bytes, %d, not %d", len(b), len(got), e, want)
	}
}

// P10.1: the document's examples.
func TestExamples(t *testing.T) {
	if b, e := keys(1).Seal(1, "n", [16]byte{2}); len(b) != 48 || wax.Extra != 48 || e != api.OK {
		t.Error(len(b), e)
	}
	checkShut(t, keys(1), 1, "n", make([]byte, 47), api.ErrCorrupt)
}

// P10.1: seals, byte for byte: kinds, names, nonces and counts of bytes, each at its edges.
func TestSeal(t *testing.T) {
	k := keys(2)
	nonces := [][16]byte{{}, {15: 1}, [16]byte(some(7, 16)), [16]byte(bytes.Repeat([]byte{255}, 16))}
	for _, kind := range []byte{0, 1, 2, 0x70, 255} {
		for _, name := range []string{"", "a", "a name", "\x00", "\xff/\n", strings.Repeat("n", 64), strings.Repeat("n", 254), strings.Repeat("n", 255)} {
			for _, nonce := range nonces {
				for _, n := range []int{0, 1, 15, 16, 17, 32, 100} {
					plain := some(int64(n), n)
					want := oracle(t, k, kind, name, nonce, plain)
					if got := sealed(t, k, kind, name, nonce, plain); !bytes.Equal(got, want) {
						t.Fatalf("%d %q %x %d: %x, not %x", kind, name, nonce, n, got, want)
					}
				}
			}
		}
	}
}

// P10.1: all parts count, one behind the other, however the bytes are shared out among them.
func TestSealParts(t *testing.T) {
	k, nonce, plain := keys(3), [16]byte{1, 2, 3}, some(3, 40)
	want := oracle(t, k, 9, "name", nonce, plain)
	for i := range len(plain) + 1 {
		for j := i; j <= len(plain); j++ {
			if got := sealed(t, k, 9, "name", nonce, plain[:i], nil, plain[i:j], []byte{}, plain[j:]); !bytes.Equal(got, want) {
				t.Fatal(i, j)
			}
		}
	}
	none := oracle(t, k, 9, "name", nonce, nil)
	for i, parts := range [][][]byte{nil, {}, {nil}, {{}, nil, {}}} {
		if got := sealed(t, k, 9, "name", nonce, parts...); !bytes.Equal(got, none) {
			t.Error("none", i)
		}
	}
}

// P10.1: a name of more than 255 bytes is none, ahead of all else; a refused call answers nothing beside the error.
func TestNameTooLong(t *testing.T) {
	k, nonce := keys(4), [16]byte{4}
	for _, n := range []int{256, 257, 512, 1000, 65536 + 3} {
		name := strings.Repeat("n", n)
		for i, parts := range [][][]byte{nil, {[]byte("a")}, {make([]byte, api.MaxPack+1)}} {
			if b, e := k.Seal(1, name, nonce, parts...); b != nil || e != api.ErrName {
				t.Error(n, i, len(b), e)
			}
		}
		for _, b := range [][]byte{nil, make([]byte, 47), marked(k, 1, name, nonce, nil), marked(k, 1, name[:n%256], nonce, nil)} {
			checkShut(t, k, 1, name, b, api.ErrName)
		}
	}
}

// P10.1: MaxPack bytes are sealed, and not one more, whichever parts they come in.
func TestSealMost(t *testing.T) {
	k, nonce, plain := keys(5), [16]byte{5}, some(5, api.MaxPack)
	want := oracle(t, k, 1, "most", nonce, plain)
	half := len(plain) / 2
	for i, parts := range [][][]byte{{plain}, {plain[:half], plain[half:]}, {plain[:1], plain[1:], nil}} {
		b := sealed(t, k, 1, "most", nonce, parts...)
		if !bytes.Equal(b, want) {
			t.Error("the most", i)
		}
		checkOpen(t, k, 1, "most", b, plain)
	}
	many := make([][]byte, 5000)
	for i := range many {
		many[i] = plain
	}
	for i, parts := range [][][]byte{{make([]byte, api.MaxPack+1)}, {plain, {1}}, {{1}, plain}, {plain[:half], plain[:half], {1}}, {plain, plain}, many} {
		if b, e := k.Seal(1, "more", nonce, parts...); b != nil || e != api.ErrBig {
			t.Error("more", i, len(b), e)
		}
	}
}

// P10.1: longer bytes than Seal makes are none that it made, even with a right mark.
func TestOpenMost(t *testing.T) {
	k, nonce := keys(6), [16]byte{6}
	for _, n := range []int{api.MaxPack + 1, api.MaxPack + wax.Extra, api.MaxPack + 1000} {
		checkShut(t, k, 1, "more", marked(k, 1, "more", nonce, make([]byte, n)), api.ErrCorrupt)
	}
	checkShut(t, k, 1, "more", make([]byte, 1<<24), api.ErrCorrupt)
}

// P10.2: what was sealed is opened.
func TestOpen(t *testing.T) {
	for seed := range int64(200) {
		chance := rand.New(rand.NewSource(seed))
		k, kind, name := keys(seed), byte(chance.Intn(256)), string(some(seed, chance.Intn(256)))
		nonce, plain := [16]byte(some(-1-seed, 16)), some(seed, chance.Intn(1+chance.Intn(500)))
		at := chance.Intn(len(plain) + 1)
		b := sealed(t, k, kind, name, nonce, plain[:at], plain[at:])
		if len(b) != len(plain)+wax.Extra {
			t.Error(seed, len(b))
		}
		checkOpen(t, k, kind, name, b, plain)
	}
}

// P10.2: two seals of the same bytes by two nonces are both opened; keys of noughts are keys, too.
func TestOpenAnyNonce(t *testing.T) {
	for _, k := range []wax.Keys{keys(8), {}} {
		a, b := sealed(t, k, 1, "n", [16]byte{1}, []byte("the same")), sealed(t, k, 1, "n", [16]byte{2}, []byte("the same"))
		if bytes.Equal(a[16:24], b[16:24]) || bytes.Contains(a, []byte("the same")) {
			t.Error("it isn't hidden by its nonce")
		}
		checkOpen(t, k, 1, "n", a, []byte("the same"))
		checkOpen(t, k, 1, "n", b, []byte("the same"))
	}
}

// P10.1: bytes that end too soon, or have more at either end.
func TestOpenOtherLengths(t *testing.T) {
	k := keys(9)
	for _, n := range []int{0, 1, 20} {
		b := sealed(t, k, 3, "place", [16]byte{9}, some(9, n))
		for i := range b {
			checkShut(t, k, 3, "place", b[:i], api.ErrCorrupt)
			checkShut(t, k, 3, "place", b[len(b)-i:], api.ErrCorrupt)
		}
		checkShut(t, k, 3, "place", append([]byte{0}, b...), api.ErrCorrupt)
		checkShut(t, k, 3, "place", append(bytes.Clone(b), 0), api.ErrCorrupt)
		checkShut(t, k, 3, "place", append(bytes.Clone(b), b...), api.ErrCorrupt)
	}
	checkShut(t, k, 3, "place", nil, api.ErrCorrupt)
}

// P10.1: whichever bit is changed: nonce, hidden bytes, mark.
func TestOpenChanged(t *testing.T) {
	k, plain := keys(10), some(10, 20)
	b := sealed(t, k, 3, "place", [16]byte{10}, plain)
	for i := range b {
		for bit := range 8 {
			b[i] ^= 1 << bit
			checkShut(t, k, 3, "place", b, api.ErrCorrupt)
			b[i] ^= 1 << bit
		}
	}
	checkOpen(t, k, 3, "place", b, plain)
}

// P10.1: what is sealed for one place is nothing in another one.
func TestOpenElsewhere(t *testing.T) {
	k := keys(11)
	b := sealed(t, k, 3, "place", [16]byte{11}, []byte("bytes"))
	for kind := range 256 {
		if kind != 3 {
			checkShut(t, k, byte(kind), "place", b, api.ErrCorrupt)
		}
	}
	for _, name := range []string{"", "p", "plac", "placf", "Place", "place ", "place\x00", "xplace", "placeplace"} {
		checkShut(t, k, 3, name, b, api.ErrCorrupt)
	}
}

// P10.1: a name's last bytes aren't the nonce's first ones, nor the other way round.
func TestNameIsCounted(t *testing.T) {
	k := keys(12)
	b := sealed(t, k, 3, "name", [16]byte(bytes.Repeat([]byte("e"), 16)), bytes.Repeat([]byte("e"), 20))
	checkShut(t, k, 3, "namee", b[1:], api.ErrCorrupt)
	checkShut(t, k, 3, "nam", append([]byte("e"), b...), api.ErrCorrupt)
	nothing := sealed(t, k, 3, "", [16]byte{0: 7}, []byte("xyz"))
	checkShut(t, k, 3, "\x07", nothing[1:], api.ErrCorrupt)
	// The kind isn't one of the name's bytes either.
	checkShut(t, k, 4, string([]byte{3}), sealed(t, k, 3, string([]byte{4}), [16]byte{}), api.ErrCorrupt)
}

// P10.1: without the key that marks nothing is opened; what another key hid comes out as other bytes.
func TestOpenByOtherKeys(t *testing.T) {
	k, plain := keys(13), some(13, 50)
	b := sealed(t, k, 3, "place", [16]byte{13}, plain)
	for i := range 32 {
		other := k
		other.Mark[i] ^= 1
		checkShut(t, other, 3, "place", b, api.ErrCorrupt)
		other = k
		other.Hide[i] ^= 1
		got, e := other.Open(3, "place", b)
		if e != api.OK || bytes.Equal(got, plain) || !bytes.Equal(sealed(t, other, 3, "place", [16]byte{13}, got), b) {
			t.Error("by another Hide", i, e)
		}
	}
	checkShut(t, keys(14), 3, "place", b, api.ErrCorrupt)
	checkShut(t, wax.Keys{Hide: k.Mark, Mark: k.Hide}, 3, "place", b, api.ErrCorrupt)
	checkShut(t, wax.Keys{}, 3, "place", b, api.ErrCorrupt)
}

// P1, P10.1: Open answers for all bytes.
func TestOpenOfAnyBytes(t *testing.T) {
	for seed := range int64(500) {
		checkShut(t, keys(15), byte(seed), "any", some(seed, int(seed)), api.ErrCorrupt)
		checkShut(t, keys(15), byte(seed), "any", make([]byte, seed), api.ErrCorrupt)
	}
}

// P10.3: bytes and lists that are handed in stay as they are, their spare room too.
func TestNothingIsChanged(t *testing.T) {
	k := keys(16)
	for _, n := range []int{0, 1, 16, 48, 100} {
		room := append(sealed(t, k, 1, "n", [16]byte{16}, some(16, n)), some(17, 200)...)
		was := bytes.Clone(room)
		list := make([][]byte, 3, 6)
		for i := range list[:6] {
			list[:6][i] = room[:n+48]
		}
		k.Seal(1, "n", [16]byte{}, list...)
		k.Open(1, "n", room[:n+48])
		k.Open(2, "n", room[:n+48])
		if !bytes.Equal(room, was) {
			t.Error(n, "bytes are changed")
		}
		for i, x := range list[:6] {
			if len(x) != n+48 || cap(x) != cap(room) || &x[0] != &room[0] {
				t.Error(n, "the list is changed", i)
			}
		}
	}
}

// P10.3, rules 4 and 5: nothing is kept, and answers are new memory.
func TestAnswersAreNew(t *testing.T) {
	k, nonce, plain := keys(18), [16]byte{18}, some(18, 60)
	want := oracle(t, k, 1, "n", nonce, plain)
	handed := bytes.Clone(plain)
	one := sealed(t, k, 1, "n", nonce, handed)
	clear(handed)
	two := sealed(t, k, 1, "n", nonce, plain)
	first, e := k.Open(1, "n", two)
	if e != api.OK {
		t.Fatal(e)
	}
	clear(two[:cap(two)])
	if !bytes.Equal(one, want) || !bytes.Equal(first, plain) {
		t.Error("answers share memory")
	}
	second, _ := k.Open(1, "n", one)
	clear(first[:cap(first)])
	if !bytes.Equal(one, want) || !bytes.Equal(second, plain) {
		t.Error("answers share memory with what was opened")
	}
}
