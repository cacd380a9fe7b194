package key_test

import (
	"bytes"
	"strings"
	"testing"

	"hypogeum/api"
	"hypogeum/cell"
	"hypogeum/key"
)

// proofKind is that of the document: 70 (base 16).
const proofKind = 0x70

func pen(r key.Ring, begin string) key.Pen {
	return key.Pen{Ring: r, Tape: cell.Wind([]byte(begin))}
}

// checkSeal: b is the seal with the given nonce.
func checkSeal(t *testing.T, r key.Ring, b []byte, e api.Errno, kind byte, name string, nonce [16]byte, plain string) {
	t.Helper()
	want, _ := r.Seal(kind, name, nonce, []byte(plain))
	if e != api.OK || !bytes.Equal(b, want) {
		t.Errorf("%x, %d, not %x", b, e, want)
	}
}

// P11.1: Write seals with the tape's next nonce, each time.
func TestWrite(t *testing.T) {
	r := ring(t, "word")
	p, nonces := pen(r, "tape"), cell.Wind([]byte("tape"))
	for i := range 20 {
		b, e := p.Write(byte(i), strings.Repeat("n", i), []byte("by"), nil, []byte("tes"))
		checkSeal(t, r, b, e, byte(i), strings.Repeat("n", i), nonces.Nonce(), "bytes")
	}
	b, e := p.Write(0, "")
	checkSeal(t, r, b, e, 0, "", nonces.Nonce(), "")
}

// P11.1: the document's example: pens of one ring, and tapes of one beginning, write the same; of another beginning they don't.
func TestPensOfOneBeginning(t *testing.T) {
	r := ring(t, "word")
	p, q, o := pen(r, "a"), pen(r, "a"), pen(r, "b")
	for i := range 5 {
		x, _ := p.Write(1, "n", []byte("bytes"))
		y, _ := q.Write(1, "n", []byte("bytes"))
		z, _ := o.Write(1, "n", []byte("bytes"))
		if len(x) != 53 || !bytes.Equal(x, y) || bytes.Equal(x, z) {
			t.Error(i)
		}
	}
}

// P11.1: pens with one tape, and what takes off it, share its nonces.
func TestPensOfOneTape(t *testing.T) {
	r := ring(t, "word")
	tape, nonces := cell.Wind([]byte("one")), cell.Wind([]byte("one"))
	p, q := key.Pen{Ring: r, Tape: tape}, key.Pen{Ring: r, Tape: tape}
	for range 3 {
		for _, x := range []key.Pen{p, q} {
			b, e := x.Write(1, "n", []byte("bytes"))
			checkSeal(t, r, b, e, 1, "n", nonces.Nonce(), "bytes")
		}
		if p.Nonce() != nonces.Nonce() || !bytes.Equal(q.Next(5), nonces.Next(5)) {
			t.Error("a pen hasn't its tape's calls")
		}
	}
}

// P11.1: the errors of Seal, in their order; the nonce is used up all the same.
func TestWriteWrong(t *testing.T) {
	r := ring(t, "word")
	p, nonces := pen(r, "tape"), cell.Wind([]byte("tape"))
	long, big := strings.Repeat("n", 256), make([]byte, api.MaxPack+1)
	for i, x := range []struct {
		name string
		part []byte
		want api.Errno
	}{{long, nil, api.ErrName}, {"n", big, api.ErrBig}, {long, big, api.ErrName}} {
		if b, e := p.Write(1, x.name, x.part); b != nil || e != x.want {
			t.Error(i, len(b), e)
		}
		nonces.Nonce()
		b, e := p.Write(1, "n", []byte("bytes"))
		checkSeal(t, r, b, e, 1, "n", nonces.Nonce(), "bytes")
	}
}

// P11.1, P1: a pen without a tape seals with noughts; one that nobody made does, too.
func TestNoTape(t *testing.T) {
	for _, r := range []key.Ring{ring(t, "word"), {}} {
		p := key.Pen{Ring: r}
		for range 2 {
			b, e := p.Write(1, "n", []byte("bytes"))
			checkSeal(t, r, b, e, 1, "n", [16]byte{}, "bytes")
			b, e = p.Proof()
			checkSeal(t, r, b, e, proofKind, "proof", [16]byte{}, string(r.Name[:]))
		}
		if p.Nonce() != [16]byte{} || len(p.Next(5)) != 0 {
			t.Error("there is a tape")
		}
	}
}

// P11.1: who has a pen can open and name, too.
func TestPenOpensAndNames(t *testing.T) {
	r := ring(t, "word")
	p := pen(r, "tape")
	b, _ := p.Write(1, "n", []byte("bytes"))
	if got, e := p.Open(1, "n", b); string(got) != "bytes" || e != api.OK {
		t.Error(got, e)
	}
	if _, e := p.Open(2, "n", b); e != api.ErrCorrupt {
		t.Error(e)
	}
	if p.Id(1, []byte("a")) != r.Id(1, []byte("a")) || p.Name != r.Name {
		t.Error("Id")
	}
}

// P11.1: a proof is the key Name, sealed with the next nonce as such.
func TestProof(t *testing.T) {
	r := ring(t, "word")
	p, nonces := pen(r, "tape"), cell.Wind([]byte("tape"))
	for range 3 {
		b, e := p.Proof()
		checkSeal(t, r, b, e, proofKind, "proof", nonces.Nonce(), string(r.Name[:]))
		if len(b) != 80 {
			t.Error(len(b))
		}
	}
}

// P11.2: a word fits its own proof, whichever nonce that has.
func TestFit(t *testing.T) {
	for i, word := range []string{"w", "a word", strings.Repeat("long", 40), "\x00\xff"} {
		for _, steps := range []int{0, 1, 50} {
			salt := some(int64(i), 16)
			r := made(t, word, salt, steps)
			for _, p := range []key.Pen{pen(r, "tape"), pen(r, word), {Ring: r}} {
				proof, _ := p.Proof()
				if got, e := key.Fit([]byte(word), salt, steps, proof); got != r || e != api.OK {
					t.Error(i, steps, e)
				}
			}
		}
	}
}

// checkUnfit: Fit answers this error, and no ring beside it.
func checkUnfit(t *testing.T, word string, salt []byte, steps int, sealed []byte, want api.Errno) {
	t.Helper()
	if r, e := key.Fit([]byte(word), salt, steps, sealed); r != (key.Ring{}) || e != want {
		t.Errorf("Fit of %q by %d steps: %d, not %d", word, steps, e, want)
	}
}

// P11.1: another word, salt or count of steps doesn't fit; wrong ones are told first.
func TestFitByAnother(t *testing.T) {
	salt := some(5, 16)
	proof, _ := pen(made(t, "word", salt, 7), "tape").Proof()
	for _, word := range []string{"w", "Word", "word ", "wore", "words", strings.Repeat("word", 30)} {
		checkUnfit(t, word, salt, 7, proof, api.ErrCorrupt)
	}
	for _, steps := range []int{0, 6, 8} {
		checkUnfit(t, "word", salt, steps, proof, api.ErrCorrupt)
	}
	for i := range salt {
		other := bytes.Clone(salt)
		other[i] ^= 1
		checkUnfit(t, "word", other, 7, proof, api.ErrCorrupt)
	}
	for _, sealed := range [][]byte{proof, nil} {
		checkUnfit(t, "", salt, 7, sealed, api.ErrArg)
		checkUnfit(t, "word", salt[:15], 7, sealed, api.ErrArg)
		checkUnfit(t, "word", append(bytes.Clone(salt), 0), 7, sealed, api.ErrArg)
		checkUnfit(t, "word", salt, -1, sealed, api.ErrArg)
		checkUnfit(t, "word", salt, mostSteps+1, sealed, api.ErrArg)
	}
}

// P11.1: a proof that was changed, cut, or isn't there.
func TestFitChanged(t *testing.T) {
	salt := some(6, 16)
	proof, _ := pen(made(t, "word", salt, 0), "tape").Proof()
	for i := range proof {
		checkUnfit(t, "word", salt, 0, proof[:i], api.ErrCorrupt)
		proof[i] ^= 4
		checkUnfit(t, "word", salt, 0, proof, api.ErrCorrupt)
		proof[i] ^= 4
	}
	checkUnfit(t, "word", salt, 0, append(bytes.Clone(proof), 0), api.ErrCorrupt)
	checkUnfit(t, "word", salt, 0, nil, api.ErrCorrupt)
	if _, e := key.Fit([]byte("word"), salt, 0, proof); e != api.OK {
		t.Error(e)
	}
}

// P11.1: what the word's own keys sealed is no proof, if it is another thing.
func TestFitOtherSeals(t *testing.T) {
	salt := some(7, 16)
	r := made(t, "word", salt, 0)
	p := pen(r, "tape")
	write := func(kind byte, name string, parts ...[]byte) []byte {
		b, e := p.Write(kind, name, parts...)
		if e != api.OK {
			t.Fatal(e)
		}
		return b
	}
	unlike := r.Name
	unlike[31] ^= 1
	for _, b := range [][]byte{
		write(0x71, "proof", r.Name[:]), write(0, "proof", r.Name[:]),
		write(proofKind, "Proof", r.Name[:]), write(proofKind, "", r.Name[:]), write(proofKind, "proof1", r.Name[:]),
		write(proofKind, "proof"), write(proofKind, "proof", r.Name[:31]), write(proofKind, "proof", r.Name[:], []byte{0}),
		write(proofKind, "proof", unlike[:]), write(proofKind, "proof", make([]byte, 32)), write(proofKind, "proof", r.Hide[:]),
	} {
		checkUnfit(t, "word", salt, 0, b, api.ErrCorrupt)
	}
	if _, e := key.Fit([]byte("word"), salt, 0, write(proofKind, "proof", r.Name[:16], r.Name[16:])); e != api.OK {
		t.Error("its Name in two parts", e)
	}
}

// P11.3: what a pen writes is new memory.
func TestAnswersAreNew(t *testing.T) {
	r := ring(t, "word")
	p, nonces := pen(r, "tape"), cell.Wind([]byte("tape"))
	part := []byte("bytes")
	one, e := p.Write(1, "n", part)
	two, _ := p.Write(1, "n", part)
	proof, _ := p.Proof()
	clear(two[:cap(two)])
	clear(proof[:cap(proof)])
	clear(part)
	checkSeal(t, r, one, e, 1, "n", nonces.Nonce(), "bytes")
	if p.Ring != r {
		t.Error("the ring is changed")
	}
}
