package cipher_test

import (
	"bytes"
	"crypto/aes"
	std "crypto/cipher"
	"encoding/hex"
	"math"
	"math/rand"
	"testing"

	"hypogeum/api"
	"hypogeum/cipher"
)

// some: bytes that look like chance, the same ones each time.
func some(seed int64, n int) []byte {
	b := make([]byte, n)
	rand.New(rand.NewSource(seed)).Read(b)
	return b
}

func fromHex(t *testing.T, s string) []byte {
	t.Helper()
	b, err := hex.DecodeString(s)
	if err != nil {
		t.Fatal(err)
	}
	return b
}

func made(t *testing.T, b []byte) *cipher.Key {
	t.Helper()
	k, e := cipher.Make(b)
	if e != api.OK || k == nil {
		t.Fatal("Make", k, e)
	}
	return k
}

func begun(t *testing.T, b []byte, number [16]byte) *cipher.Flow {
	t.Helper()
	f, e := cipher.Begin(made(t, b), number)
	if e != api.OK || f == nil {
		t.Fatal("Begin", f, e)
	}
	return f
}

// stream: the first bytes of a flow, as the library makes them.
func stream(t *testing.T, key []byte, number [16]byte, n int) []byte {
	t.Helper()
	c, err := aes.NewCipher(key)
	if err != nil {
		t.Fatal(err)
	}
	b := make([]byte, n)
	std.NewCTR(c, number[:]).XORKeyStream(b, b)
	return b
}

func together(a, b []byte) []byte {
	c := bytes.Clone(a)
	for i, x := range b {
		c[i] ^= x
	}
	return c
}

// P2.1: Turn, by the examples of FIPS 197 (the document's) and of SP 800-38A.
func TestTurnExamples(t *testing.T) {
	for i, x := range []struct{ key, block, want string }{
		{"000102030405060708090a0b0c0d0e0f101112131415161718191a1b1c1d1e1f", "00112233445566778899aabbccddeeff", "8ea2b7ca516745bfeafc49904b496089"},
		{"603deb1015ca71be2b73aef0857d77811f352c073b6108d72d9810a30914dff4", "6bc1bee22e409f96e93d7e117393172a", "f3eed1bdb5d2a03c064b5a7e3db181f8"},
		{"603deb1015ca71be2b73aef0857d77811f352c073b6108d72d9810a30914dff4", "ae2d8a571e03ac9c9eb76fac45af8e51", "591ccb10d410ed26dc5ba74a31362870"},
		{"603deb1015ca71be2b73aef0857d77811f352c073b6108d72d9810a30914dff4", "30c81c46a35ce411e5fbc1191a0a52ef", "b6ed21b99ca6f4f9f153e7b1beafed1d"},
		{"603deb1015ca71be2b73aef0857d77811f352c073b6108d72d9810a30914dff4", "f69f2445df4f9b17ad2b417be66c3710", "23304b7a39f9f3ff067d8d8f9e24ecc7"},
	} {
		got := made(t, fromHex(t, x.key)).Turn([16]byte(fromHex(t, x.block)))
		if !bytes.Equal(got[:], fromHex(t, x.want)) {
			t.Errorf("%d: %x", i, got)
		}
	}
}

// P2.1: Turn, by many keys, against the library's.
func TestTurnMany(t *testing.T) {
	for i := range 500 {
		key, block := some(int64(i), 32), [16]byte(some(int64(-1-i), 16))
		c, err := aes.NewCipher(key)
		if err != nil {
			t.Fatal(err)
		}
		var want [16]byte
		c.Encrypt(want[:], block[:])
		if got := made(t, key).Turn(block); got != want {
			t.Fatalf("%d: %x, not %x", i, got, want)
		}
	}
}

// P2.1: Make takes 32 bytes and no other count; rule 2: there is no key beside an error.
func TestMakeWrong(t *testing.T) {
	for _, n := range []int{0, 1, 16, 24, 31, 33, 64, 1000} {
		if k, e := cipher.Make(make([]byte, n)); k != nil || e != api.ErrArg {
			t.Error(n, k, e)
		}
	}
	if k, e := cipher.Make(nil); k != nil || e != api.ErrArg {
		t.Error("nil", k, e)
	}
	// Room for 32 bytes isn't 32 bytes.
	if k, e := cipher.Make(make([]byte, 31, 32)); k != nil || e != api.ErrArg {
		t.Error("room", k, e)
	}
}

// P2.1: Begin without a key.
func TestBeginWrong(t *testing.T) {
	if f, e := cipher.Begin(nil, [16]byte{1}); f != nil || e != api.ErrArg {
		t.Error(f, e)
	}
}

// P2.1: a flow is at place 0 first, and has its key's call.
func TestBegin(t *testing.T) {
	k := made(t, some(1, 32))
	f, e := cipher.Begin(k, [16]byte{3})
	if e != api.OK || f == nil || f.Key != k || f.At() != 0 {
		t.Fatal(f, e)
	}
	block := [16]byte(some(2, 16))
	if f.Turn(block) != k.Turn(block) || f.At() != 0 {
		t.Error("Turn of a flow isn't its key's")
	}
}

// P2.1: Hide, by the example of SP 800-38A.
func TestHideExample(t *testing.T) {
	f := begun(t, fromHex(t, "603deb1015ca71be2b73aef0857d77811f352c073b6108d72d9810a30914dff4"), [16]byte(fromHex(t, "f0f1f2f3f4f5f6f7f8f9fafbfcfdfeff")))
	got := f.Hide(fromHex(t, "6bc1bee22e409f96e93d7e117393172aae2d8a571e03ac9c9eb76fac45af8e5130c81c46a35ce411e5fbc1191a0a52eff69f2445df4f9b17ad2b417be66c3710"))
	if want := fromHex(t, "601ec313775789a5b7a7f504bbf3d228f443e3ca4d62b59aca84e990cacaf5c52b0930daa23de94ce87017ba2d84988ddfc9c58db67aada613c2dd08457941a6"); !bytes.Equal(got, want) {
		t.Errorf("%x", got)
	}
}

// P2.1: a number grows over all its 16 bytes, modulo 2^128.
func TestNumberGrows(t *testing.T) {
	key := some(3, 32)
	k := made(t, key)
	for carry := range 17 {
		var number [16]byte
		for i := 16 - carry; i < 16; i++ {
			number[i] = 255
		}
		got := begun(t, key, number).Hide(make([]byte, 80))
		if !bytes.Equal(got, stream(t, key, number, 80)) {
			t.Errorf("%x: %x", number, got)
		}
	}
	all := [16]byte(bytes.Repeat([]byte{255}, 16))
	second := k.Turn([16]byte{})
	if got := begun(t, key, all).Hide(make([]byte, 32)); !bytes.Equal(got[16:], second[:]) {
		t.Error("behind the greatest number isn't 0")
	}
}

// P2.1: all counts of bytes; At tells how many were used.
func TestHideAllLengths(t *testing.T) {
	key, number := some(4, 32), [16]byte(some(5, 16))
	b := some(6, 300)
	want := together(b, stream(t, key, number, len(b)))
	for n := range len(b) {
		f := begun(t, key, number)
		if got := f.Hide(b[:n]); !bytes.Equal(got, want[:n]) || f.At() != n {
			t.Fatal(n, f.At())
		}
	}
}

// P2.1: no bytes: none come, and the place stays.
func TestHideNothing(t *testing.T) {
	f := begun(t, some(7, 32), [16]byte{})
	f.Hide(make([]byte, 5))
	if len(f.Hide()) != 0 || len(f.Hide(nil)) != 0 || len(f.Hide(nil, []byte{}, nil)) != 0 || f.At() != 5 {
		t.Error(f.At())
	}
}

// P2.1: Seek goes to each place, and the bytes from there on are the flow's.
func TestSeek(t *testing.T) {
	key, number := some(8, 32), [16]byte(bytes.Repeat([]byte{255}, 16))
	f := begun(t, key, number)
	all := stream(t, key, number, 200)
	for _, at := range []int{100, 0, 1, 15, 16, 17, 31, 32, 47, 99, 160} {
		if e := f.Seek(at); e != api.OK || f.At() != at {
			t.Fatal(at, e, f.At())
		}
		if got := f.Hide(make([]byte, 40)); !bytes.Equal(got, all[at:at+40]) || f.At() != at+40 {
			t.Errorf("from %d on: %x", at, got)
		}
	}
}

// P2.1: places are 0 to 2^40; a call that is refused changes nothing.
func TestSeekEdges(t *testing.T) {
	key := some(9, 32)
	f := begun(t, key, [16]byte{})
	for _, at := range []int{-1, 1<<40 + 1, math.MinInt, math.MaxInt} {
		f.Seek(7)
		if e := f.Seek(at); e != api.ErrArg || f.At() != 7 {
			t.Error(at, e, f.At())
		}
	}
	if e := f.Seek(1 << 40); e != api.OK || f.At() != 1<<40 {
		t.Fatal(e, f.At())
	}
	// 2^40 bytes are 2^36 blocks.
	want := f.Turn([16]byte{11: 16})
	if got := f.Hide(make([]byte, 16)); !bytes.Equal(got, want[:]) || f.At() != 1<<40+16 {
		t.Errorf("%x %d", got, f.At())
	}
	if e := f.Seek(0); e != api.OK || f.At() != 0 {
		t.Error(e, f.At())
	}
}

// P1, P2.1: nil objects answer as the chapter says, and those that nobody made end, too.
func TestNilOnes(t *testing.T) {
	var k *cipher.Key
	block := [16]byte{1, 2, 3}
	if k.Turn(block) != [16]byte{} {
		t.Error("Turn of a nil key")
	}
	var f *cipher.Flow
	if f.Hide([]byte("abc")) != nil || f.Hide() != nil || f.At() != 0 || f.Seek(0) != api.ErrArg || f.Seek(-1) != api.ErrArg || f.Turn(block) != [16]byte{} {
		t.Error("a nil flow")
	}
	if new(cipher.Key).Turn(block) != [16]byte{} {
		t.Error("Turn of a key that wasn't made")
	}
	bare := new(cipher.Flow)
	if bare.Turn(block) != [16]byte{} || string(bare.Hide([]byte("abc"))) != "abc" || bare.At() != 3 || bare.Seek(1) != api.OK || bare.At() != 1 {
		t.Error("a flow that wasn't begun")
	}
}

// P2.2: what is hidden twice from one place is plain.
func TestHideTwice(t *testing.T) {
	key, number := some(10, 32), [16]byte(some(11, 16))
	for _, n := range []int{0, 1, 16, 100, 5000} {
		for _, at := range []int{0, 3, 16, 1 << 40} {
			b := some(int64(n), n)
			f := begun(t, key, number)
			f.Seek(at)
			hidden := f.Hide(b)
			if n > 15 && bytes.Equal(hidden, b) {
				t.Error(n, at, "isn't hidden")
			}
			other := begun(t, key, number)
			other.Seek(at)
			if got := other.Hide(hidden); !bytes.Equal(got, b) {
				t.Error(n, at, "isn't plain")
			}
		}
	}
}

// P2.2: wherever the bytes are parted, among parts or calls, what comes is the same.
func TestPartsAreNothing(t *testing.T) {
	key, number := some(12, 32), [16]byte(some(13, 16))
	b := some(14, 70)
	want := together(b, stream(t, key, number, len(b)))
	for i := range len(b) + 1 {
		for j := i; j <= len(b); j++ {
			if got := begun(t, key, number).Hide(b[:i], nil, b[i:j], []byte{}, b[j:]); !bytes.Equal(got, want) {
				t.Fatal("parts", i, j)
			}
			f := begun(t, key, number)
			got := bytes.Clone(f.Hide(b[:i]))
			got = append(got, f.Hide()...)
			got = append(got, f.Hide(b[i:j])...)
			got = append(got, f.Hide(b[j:])...)
			if !bytes.Equal(got, want) || f.At() != len(b) {
				t.Fatal("calls", i, j)
			}
		}
	}
}

// P2.2, and rule 5: flows of one key, and of one number, don't meddle with each other.
func TestFlowsStandAlone(t *testing.T) {
	key, number := some(15, 32), [16]byte(some(16, 16))
	k := made(t, key)
	f, _ := cipher.Begin(k, number)
	g, _ := cipher.Begin(k, number)
	all := stream(t, key, number, 60)
	first := f.Hide(make([]byte, 20))
	g.Hide(make([]byte, 33))
	k.Turn([16]byte{9})
	f.Turn([16]byte{9})
	if got := append(first, f.Hide(make([]byte, 40))...); !bytes.Equal(got, all) {
		t.Errorf("%x", got)
	}
}

// P2.3: bytes and lists that are handed in stay as they are, their spare room too.
func TestNothingIsChanged(t *testing.T) {
	room := some(17, 300)
	was := bytes.Clone(room)
	k := made(t, room[:32])
	f, _ := cipher.Begin(k, [16]byte{})
	list := make([][]byte, 3, 6)
	for i := range list[:6] {
		list[:6][i] = room[:40]
	}
	f.Hide(list...)
	f.Hide(list[:1]...)
	if !bytes.Equal(room, was) {
		t.Error("bytes are changed")
	}
	for i, x := range list[:6] {
		if len(x) != 40 || cap(x) != 300 || &x[0] != &room[0] {
			t.Error("the list is changed", i)
		}
	}
}

// P2.3: the bytes of a key, and the parts, aren't kept.
func TestNothingIsKept(t *testing.T) {
	key, number := some(18, 32), [16]byte(some(19, 16))
	want := stream(t, key, number, 40)
	handed := bytes.Clone(key)
	f := begun(t, handed, number)
	part := make([]byte, 20)
	got := bytes.Clone(f.Hide(part))
	clear(handed)
	for i := range part {
		part[i] = 255
	}
	if got = append(got, f.Hide(make([]byte, 20))...); !bytes.Equal(got, want) {
		t.Errorf("%x", got)
	}
}

// P2.3: an answer shares no memory with the parts, the flow, or another answer.
func TestAnswersAreNew(t *testing.T) {
	key, number := some(20, 32), [16]byte(some(21, 16))
	want := stream(t, key, number, 64)
	f := begun(t, key, number)
	part := make([]byte, 32, 100)
	first := f.Hide(part)
	kept := bytes.Clone(first)
	second := f.Hide(part)
	for i := range second[:cap(second)] {
		second[:cap(second)][i] = 77
	}
	if !bytes.Equal(first, kept) || !bytes.Equal(part[:100], make([]byte, 100)) {
		t.Error("answers share memory")
	}
	f.Seek(0)
	if got := f.Hide(make([]byte, 64)); !bytes.Equal(got, want) {
		t.Errorf("%x", got)
	}
}
