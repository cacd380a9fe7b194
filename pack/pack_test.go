package pack_test

import (
	"bytes"
	"crypto/hmac"
	"crypto/sha256"
	"encoding/binary"
	"encoding/hex"
	"math"
	"math/rand"
	"slices"
	"testing"

	"hypogeum/api"
	"hypogeum/cell"
	"hypogeum/key"
	"hypogeum/pack"
	"hypogeum/wax"
)

// headKind is that of the document: 68 (base 16).
const headKind = 0x68

// some: bytes that look like chance, the same ones each time.
func some(seed int64, n int) []byte {
	b := make([]byte, n)
	rand.New(rand.NewSource(seed)).Read(b)
	return b
}

// ring: keys, unlike for each seed.
func ring(seed int64) key.Ring {
	return key.Ring{Keys: wax.Keys{Hide: [32]byte(some(3*seed, 32)), Mark: [32]byte(some(3*seed+1, 32))}, Name: [32]byte(some(3*seed+2, 32))}
}

func pen(r key.Ring, begin string) key.Pen {
	return key.Pen{Ring: r, Tape: cell.Wind([]byte(begin))}
}

// blob is what goes into a pack.
type blob struct {
	kind  int
	bytes []byte
}

// idOf: a blob's name, by the document's words and the library's sums.
func idOf(r key.Ring, x blob) api.Id {
	m := hmac.New(sha256.New, r.Name[:])
	m.Write([]byte{byte(x.kind)})
	m.Write(x.bytes)
	return api.Id(m.Sum(nil))
}

// nameOf: a pack's name, likewise.
func nameOf(b []byte) string {
	s := sha256.Sum256(b)
	return "p/" + hex.EncodeToString(s[:20])
}

// headOf: what a head says of entries, and a count of them, right or not.
func headOf(count uint64, l ...pack.Entry) []byte {
	b := binary.AppendUvarint([]byte{'H', 'Y', headKind}, count)
	for _, x := range l {
		b = append(b, x.Id[:]...)
		b = binary.AppendUvarint(b, uint64(x.Kind))
		b = binary.AppendUvarint(b, uint64(x.Len))
	}
	return b
}

// seal: by a ring, whatever it is.
func seal(t *testing.T, r key.Ring, kind byte, name string, nonce [16]byte, b []byte) []byte {
	t.Helper()
	s, e := r.Seal(kind, name, nonce, b)
	if e != api.OK {
		t.Fatal("Seal", e)
	}
	return s
}

// joined: what is ahead of a head, the head sealed, its count.
func joined(ahead, head []byte) []byte {
	return binary.BigEndian.AppendUint32(slices.Concat(ahead, head), uint32(len(head)))
}

// headed: a pack whose head says that.
func headed(t *testing.T, r key.Ring, ahead, h []byte) []byte {
	t.Helper()
	return joined(ahead, seal(t, r, headKind, "head", [16]byte{9}, h))
}

// packOf: a pack's bytes and entries, by the document's words.
func packOf(t *testing.T, r key.Ring, nonces *cell.Tape, l ...blob) ([]byte, []pack.Entry) {
	t.Helper()
	var b []byte
	var entries []pack.Entry
	for _, x := range l {
		id := idOf(r, x)
		s := seal(t, r, byte(x.kind), hex.EncodeToString(id[:]), nonces.Nonce(), x.bytes)
		entries = append(entries, pack.Entry{Id: id, Kind: x.kind, Off: len(b), Len: len(s)})
		b = append(b, s...)
	}
	return joined(b, seal(t, r, headKind, "head", nonces.Nonce(), headOf(uint64(len(l)), entries...))), entries
}

// blobs: n of them, unlike, of both kinds and some sizes.
func blobs(n int) []blob {
	var l []blob
	for i := range n {
		l = append(l, blob{1 + i%2, append(some(int64(i), i*i%300), byte(i), byte(i>>8))})
	}
	return l
}

func checkEntries(t *testing.T, r key.Ring, b []byte, want []pack.Entry) {
	t.Helper()
	if got, e := pack.Entries(r, b); e != api.OK || !slices.Equal(got, want) {
		t.Errorf("Entries: %v, %d, not %v", got, e, want)
	}
}

// checkNoPack: Entries tells that these bytes are none, and nothing beside it.
func checkNoPack(t *testing.T, what string, r key.Ring, b []byte) {
	t.Helper()
	if got, e := pack.Entries(r, b); len(got) != 0 || e != api.ErrCorrupt {
		t.Errorf("%s: Entries: %d, %d", what, len(got), e)
	}
}

func checkBlob(t *testing.T, r key.Ring, b []byte, x pack.Entry, want []byte) {
	t.Helper()
	if got, e := pack.Blob(r, b, x); e != api.OK || !bytes.Equal(got, want) {
		t.Errorf("Blob of %v: %d bytes, %d", x, len(got), e)
	}
}

// checkNoBlob: Blob answers this error, and nothing beside it.
func checkNoBlob(t *testing.T, what string, r key.Ring, b []byte, x pack.Entry, want api.Errno) {
	t.Helper()
	if got, e := pack.Blob(r, b, x); len(got) != 0 || e != want {
		t.Errorf("%s: Blob of %v: %d bytes, %d, not %d", what, x, len(got), e, want)
	}
}

// P12.1: a name is p/ and the first 40 digits of the sum of all bytes.
func TestName(t *testing.T) {
	if got := pack.Name([]byte("abc")); got != "p/ba7816bf8f01cfea414140de5dae2223b00361a3" {
		t.Error(got)
	}
	for n := range 200 {
		if b := some(int64(n), n); pack.Name(b) != nameOf(b) {
			t.Error(n, pack.Name(b))
		}
	}
	if pack.Name(nil) != pack.Name([]byte{}) {
		t.Error("nil and no bytes are two")
	}
}

// P12.1, P12.2: what a pack that is made by the document's words has, entries and blobs.
func TestRead(t *testing.T) {
	r := ring(1)
	for _, n := range []int{1, 2, 3, 40, 1000} {
		l := blobs(n)
		b, entries := packOf(t, r, cell.Wind(nil), l...)
		checkEntries(t, r, b, entries)
		for i, x := range entries {
			checkBlob(t, r, b, x, l[i].bytes)
		}
	}
}

// P12.1: bytes that are too few for a count and a head.
func TestEntriesOfFewBytes(t *testing.T) {
	r := ring(1)
	for n := range 60 {
		checkNoPack(t, "noughts", r, make([]byte, n))
		checkNoPack(t, "chance", r, some(int64(n), n))
	}
	b, _ := packOf(t, r, cell.Wind(nil), blobs(3)...)
	for n := range len(b) {
		checkNoPack(t, "the beginning", r, b[:n])
	}
}

// P12.1: the count of the head's bytes must be that, whatever numbers it may tell.
func TestEntriesCount(t *testing.T) {
	r := ring(1)
	b, entries := packOf(t, r, cell.Wind(nil), blobs(3)...)
	ahead, right := b[:len(b)-4], binary.BigEndian.Uint32(b[len(b)-4:])
	for _, n := range []uint32{0, 1, 47, 48, right - 1, right + 1, uint32(len(ahead)), uint32(len(ahead) + 1), uint32(len(b)), 1 << 31, 1<<31 - 1, math.MaxUint32, right + 1<<24, right<<8 | right>>24} {
		checkNoPack(t, "count", r, binary.BigEndian.AppendUint32(slices.Clone(ahead), n))
	}
	checkNoPack(t, "the lowest first", r, binary.LittleEndian.AppendUint32(slices.Clone(ahead), right))
	checkEntries(t, r, binary.BigEndian.AppendUint32(slices.Clone(ahead), right), entries)
}

// P12.1: a head is sealed by these keys, as what it is.
func TestEntriesSeal(t *testing.T) {
	r, o := ring(1), ring(2)
	x := pack.Entry{Id: api.Id{1}, Kind: 1, Len: 5}
	h, ahead := headOf(1, x), make([]byte, 5)
	checkEntries(t, r, headed(t, r, ahead, h), []pack.Entry{x})
	checkNoPack(t, "other keys", o, headed(t, r, ahead, h))
	checkNoPack(t, "another Mark", key.Ring{Keys: wax.Keys{Hide: r.Hide, Mark: o.Mark}, Name: r.Name}, headed(t, r, ahead, h))
	checkNoPack(t, "another kind", r, joined(ahead, seal(t, r, 0x69, "head", [16]byte{}, h)))
	checkNoPack(t, "another name", r, joined(ahead, seal(t, r, headKind, "heap", [16]byte{}, h)))
	checkNoPack(t, "no seal", r, joined(ahead, h))
	// Who names blobs isn't asked here.
	checkEntries(t, key.Ring{Keys: r.Keys, Name: o.Name}, headed(t, r, ahead, h), []pack.Entry{x})
}

// P12.1: a head has 1 to 1000 blobs, as many as it says.
func TestEntriesHowMany(t *testing.T) {
	r := ring(1)
	var l []pack.Entry
	for i := range 1001 {
		l = append(l, pack.Entry{Id: api.Id{byte(i), byte(i >> 8)}, Kind: 1, Off: i, Len: 1})
	}
	for _, n := range []int{1, 2, 999, 1000} {
		checkEntries(t, r, headed(t, r, make([]byte, n), headOf(uint64(n), l[:n]...)), l[:n])
	}
	checkNoPack(t, "none", r, headed(t, r, nil, headOf(0)))
	checkNoPack(t, "1001", r, headed(t, r, make([]byte, 1001), headOf(1001, l...)))
	checkNoPack(t, "fewer than it says", r, headed(t, r, make([]byte, 3), headOf(4, l[:3]...)))
	checkNoPack(t, "more than it says", r, headed(t, r, make([]byte, 3), headOf(2, l[:3]...)))
	checkNoPack(t, "a great many", r, headed(t, r, make([]byte, 3), headOf(1<<61, l[:3]...)))
}

// P12.1: what a head says is a glyph of its kind, and nothing behind it.
func TestEntriesGlyph(t *testing.T) {
	r := ring(1)
	h := headOf(1, pack.Entry{Id: api.Id{1}, Kind: 1, Len: 5})
	checkNoPack(t, "bytes left", r, headed(t, r, make([]byte, 5), append(slices.Clone(h), 0)))
	for n := range h {
		checkNoPack(t, "cut", r, headed(t, r, make([]byte, 5), h[:n]))
	}
	for i := range 3 {
		g := slices.Clone(h)
		g[i] ^= 1
		checkNoPack(t, "another beginning", r, headed(t, r, make([]byte, 5), g))
	}
	g := append(h[:len(h)-1:len(h)-1], 0x85, 0)
	checkNoPack(t, "a number in another way", r, headed(t, r, make([]byte, 5), g))
}

// P12.1: which kinds and counts of bytes a head may say, and that these come to all that is ahead of it.
func TestEntriesSays(t *testing.T) {
	r := ring(1)
	for _, x := range []struct {
		kind, size, ahead int
		ok                bool
	}{
		{1, 48, 48, true}, {2, 48, 48, true}, {0, 48, 48, false}, {3, 48, 48, false}, {257, 48, 48, false},
		{1, 0, 0, true}, {2, 1, 1, true}, {1, 47, 47, true},
		{1, 1 << 20, 1 << 20, true}, {1, 1<<20 + 1, 1<<20 + 1, false},
		{1, 48, 47, false}, {1, 48, 49, false}, {1, 48, 0, false}, {1, 0, 1, false},
	} {
		e := pack.Entry{Id: api.Id{1}, Kind: x.kind, Len: x.size}
		b := headed(t, r, make([]byte, x.ahead), headOf(1, e))
		if x.ok {
			checkEntries(t, r, b, []pack.Entry{e})
		} else {
			checkNoPack(t, "says", r, b)
		}
	}
	l := []pack.Entry{{Id: api.Id{1}, Kind: 1, Len: 1 << 20}, {Id: api.Id{2}, Kind: 2, Off: 1 << 20}, {Id: api.Id{0}, Kind: 1, Off: 1 << 20, Len: 7}}
	checkEntries(t, r, headed(t, r, make([]byte, 1<<20+7), headOf(3, l...)), l)
}

// P12.1: no two blobs of a pack have one name, whichever their kinds.
func TestEntriesNames(t *testing.T) {
	r := ring(1)
	a, b := pack.Entry{Id: api.Id{1}, Kind: 1, Len: 2}, pack.Entry{Id: api.Id{31: 1}, Kind: 1, Off: 2, Len: 2}
	checkEntries(t, r, headed(t, r, make([]byte, 4), headOf(2, a, b)), []pack.Entry{a, b})
	for _, l := range [][]pack.Entry{{a, a}, {a, b, a}, {a, {Id: a.Id, Kind: 2, Len: 2}}, {a, {Id: a.Id, Kind: 1, Len: 9}}} {
		size := 0
		for _, x := range l {
			size += x.Len
		}
		checkNoPack(t, "one name twice", r, headed(t, r, make([]byte, size), headOf(uint64(len(l)), l...)))
	}
}

// P12.1, P2: what stands ahead of the head isn't looked at by Entries; of the rest no bit can be changed.
func TestEntriesChanged(t *testing.T) {
	r := ring(1)
	b, entries := packOf(t, r, cell.Wind(nil), blobs(3)...)
	last := entries[2].Off + entries[2].Len
	for i := range b {
		b[i] ^= 1 << (i % 8)
		if i < last {
			checkEntries(t, r, b, entries)
		} else {
			checkNoPack(t, "changed", r, b)
		}
		b[i] ^= 1 << (i % 8)
	}
	checkNoPack(t, "a byte more", r, append(slices.Clone(b), 0))
	checkNoPack(t, "a byte more at first", r, append([]byte{0}, b...))
	checkNoPack(t, "a byte less at first", r, b[1:])
}

// P12.1, P2: a blob's sealed bytes can't be changed, nor taken for another blob's.
func TestBlobChanged(t *testing.T) {
	r := ring(1)
	l := []blob{{1, []byte("some bytes")}, {2, []byte("some bytes")}, {1, nil}, {2, []byte("some other")}}
	b, entries := packOf(t, r, cell.Wind(nil), l...)
	x := entries[1]
	for i := x.Off; i < x.Off+x.Len; i++ {
		b[i] ^= 1 << (i % 8)
		checkNoBlob(t, "changed", r, b, x, api.ErrCorrupt)
		checkBlob(t, r, b, entries[0], l[0].bytes)
		checkBlob(t, r, b, entries[2], nil)
		b[i] ^= 1 << (i % 8)
	}
	for i, x := range entries {
		for j, y := range entries {
			if i != j {
				checkNoBlob(t, "another's place", r, b, pack.Entry{Id: x.Id, Kind: x.Kind, Off: y.Off, Len: y.Len}, api.ErrCorrupt)
				checkNoBlob(t, "another's name", r, b, pack.Entry{Id: y.Id, Kind: x.Kind, Off: x.Off, Len: x.Len}, api.ErrCorrupt)
			}
		}
		checkNoBlob(t, "another kind", r, b, pack.Entry{Id: x.Id, Kind: 3 - x.Kind, Off: x.Off, Len: x.Len}, api.ErrCorrupt)
		checkNoBlob(t, "other keys", ring(2), b, x, api.ErrCorrupt)
		checkNoBlob(t, "another Name", key.Ring{Keys: r.Keys}, b, x, api.ErrCorrupt)
	}
}

// P12.1: a blob's place is within the bytes, else ErrArg, whatever its kind; within them, what isn't one is ErrCorrupt.
func TestBlobPlaces(t *testing.T) {
	r := ring(1)
	b, entries := packOf(t, r, cell.Wind(nil), blob{1, []byte("some bytes")})
	x, n := entries[0], len(b)
	for _, y := range []struct {
		off, size int
		want      api.Errno
	}{
		{-1, x.Len, api.ErrArg}, {0, -1, api.ErrArg}, {math.MinInt, 5, api.ErrArg}, {5, math.MinInt, api.ErrArg},
		{0, n + 1, api.ErrArg}, {1, n, api.ErrArg}, {n, 1, api.ErrArg}, {n + 1, 0, api.ErrArg}, {n + 1, -1, api.ErrArg},
		{math.MaxInt, 0, api.ErrArg}, {0, math.MaxInt, api.ErrArg}, {math.MaxInt, math.MaxInt, api.ErrArg}, {math.MaxInt, 1, api.ErrArg},
		{-1, math.MaxInt, api.ErrArg}, {math.MinInt, math.MaxInt, api.ErrArg},
		{0, 0, api.ErrCorrupt}, {n, 0, api.ErrCorrupt}, {0, n, api.ErrCorrupt}, {n - 1, 1, api.ErrCorrupt}, {0, 47, api.ErrCorrupt},
		{0, x.Len - 1, api.ErrCorrupt}, {0, x.Len + 1, api.ErrCorrupt}, {1, x.Len, api.ErrCorrupt}, {1, x.Len - 1, api.ErrCorrupt},
	} {
		for _, kind := range []int{1, 2, 0, -1} {
			checkNoBlob(t, "place", r, b, pack.Entry{Id: x.Id, Kind: kind, Off: y.off, Len: y.size}, y.want)
		}
	}
	checkNoBlob(t, "no bytes", r, nil, x, api.ErrArg)
	checkNoBlob(t, "no bytes, nothing asked", r, nil, pack.Entry{Kind: 1}, api.ErrCorrupt)
}

// P12.1: of another kind than 1 and 2 nothing is sealed so, though its lowest byte may be one, or a seal may say so.
func TestBlobKinds(t *testing.T) {
	r := ring(1)
	for _, kind := range []int{0, 3, -1, 255, 256, 257, 258, -255, -254, 1<<32 + 1, math.MinInt + 1, math.MaxInt} {
		x := blob{kind, []byte("some bytes")}
		id := idOf(r, x)
		b := seal(t, r, byte(kind), hex.EncodeToString(id[:]), [16]byte{}, x.bytes)
		checkNoBlob(t, "kind", r, b, pack.Entry{Id: id, Kind: kind, Len: len(b)}, api.ErrCorrupt)
	}
}

// P12.1: by the keys, but for another name than its bytes have, or of too many bytes: no blob.
func TestBlobMade(t *testing.T) {
	r := ring(1)
	id := idOf(r, blob{1, []byte("some bytes")})
	for _, x := range []struct {
		kind  byte
		name  string
		bytes string
	}{
		{1, hex.EncodeToString(id[:]), "some other"}, {1, hex.EncodeToString(id[:]), ""},
		{1, hex.EncodeToString(id[:]) + "0", "some bytes"}, {1, hex.EncodeToString(id[:])[:63], "some bytes"}, {1, "", "some bytes"},
		{1, "head", "some bytes"}, {2, hex.EncodeToString(id[:]), "some bytes"}, {0, hex.EncodeToString(id[:]), "some bytes"},
	} {
		b := seal(t, r, x.kind, x.name, [16]byte{}, []byte(x.bytes))
		checkNoBlob(t, "made", r, b, pack.Entry{Id: id, Kind: 1, Len: len(b)}, api.ErrCorrupt)
	}
	for _, n := range []int{api.MaxBlob - 1, api.MaxBlob, api.MaxBlob + 1, api.MaxPack} {
		x := blob{2, some(7, n)}
		id := idOf(r, x)
		b := seal(t, r, 2, hex.EncodeToString(id[:]), [16]byte{}, x.bytes)
		if e := (pack.Entry{Id: id, Kind: 2, Len: len(b)}); n <= api.MaxBlob {
			checkBlob(t, r, b, e, x.bytes)
		} else {
			checkNoBlob(t, "too many bytes", r, b, e, api.ErrCorrupt)
		}
	}
}

// P12.3: reading changes and keeps nothing, and answers new memory.
func TestReadKeepsNothing(t *testing.T) {
	r, l := ring(1), blobs(5)
	whole, entries := packOf(t, r, cell.Wind(nil), l...)
	room := append(slices.Clone(whole), 1, 2, 3)
	b := room[:len(whole)]
	first, _ := pack.Entries(r, b)
	again, _ := pack.Entries(r, b)
	clear(again)
	plain, _ := pack.Blob(r, b, entries[4])
	other, _ := pack.Blob(r, b, entries[4])
	clear(other)
	if !bytes.Equal(room[:len(whole)], whole) || !bytes.Equal(room[len(whole):], []byte{1, 2, 3}) {
		t.Error("the bytes are changed")
	}
	clear(room)
	if !slices.Equal(first, entries) || !bytes.Equal(plain, l[4].bytes) {
		t.Error("answers share memory")
	}
}
