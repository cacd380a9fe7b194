package cell_test

import (
	"bytes"
	"crypto/sha256"
	"encoding/binary"
	"math"
	"math/rand"
	"testing"

	"hypogeum/cell"
	"hypogeum/sum"
)

const mostNext = 1 << 20

// tape: its first n bytes, by the document's words.
func tape(begin string, n int) []byte {
	var b []byte
	for i := uint64(0); len(b) < n; i++ {
		s := sha256.Sum256(binary.BigEndian.AppendUint64([]byte(begin), i))
		b = append(b, s[:]...)
	}
	return b[:n]
}

func checkBytes(t *testing.T, got, want []byte) {
	t.Helper()
	if !bytes.Equal(got, want) {
		t.Errorf("%d bytes, not these %d", len(got), len(want))
	}
}

// P9.1: the document's example.
func TestTapeExample(t *testing.T) {
	want := sum.Of([]byte("a"), make([]byte, 8))
	checkBytes(t, cell.Wind([]byte("a")).Next(32), want[:])
}

// P9.1: all counts of bytes, and what comes behind them.
func TestNext(t *testing.T) {
	for _, begin := range []string{"", "a", "\x00", "begin", string(make([]byte, 200))} {
		want := tape(begin, 300)
		for n := range 140 {
			x := cell.Wind([]byte(begin))
			checkBytes(t, x.Next(n), want[:n])
			checkBytes(t, x.Next(150), want[n:n+150])
		}
	}
}

// P9.1: however they are asked for, the bytes are the same.
func TestNextByShares(t *testing.T) {
	want := tape("shares", 5000)
	for seed := range int64(50) {
		chance := rand.New(rand.NewSource(seed))
		x := cell.Wind([]byte("shares"))
		at := 0
		for at < 4500 {
			if chance.Intn(3) == 0 {
				n := x.Nonce()
				checkBytes(t, n[:], want[at:at+16])
				at += 16
				continue
			}
			n := chance.Intn(1 + chance.Intn(150))
			checkBytes(t, x.Next(n), want[at:at+n])
			at += n
		}
	}
}

// P9.1: below 1: none, and none is used up.
func TestNextNone(t *testing.T) {
	x := cell.Wind([]byte("none"))
	for _, n := range []int{0, -1, -32, math.MinInt} {
		if b := x.Next(n); len(b) != 0 {
			t.Error(n, b)
		}
	}
	checkBytes(t, x.Next(40), tape("none", 40))
}

// P9.1: above 2^20: as many as that; and the count takes more than two of its bytes.
func TestNextMany(t *testing.T) {
	want := tape("many", 4*mostNext+100)
	x := cell.Wind([]byte("many"))
	at := 0
	for _, n := range []int{mostNext, mostNext + 1, math.MaxInt, 50, mostNext - 1} {
		count := min(n, mostNext)
		checkBytes(t, x.Next(n), want[at:at+count])
		at += count
	}
}

// P9.1: nonces are the 16 next ones; tapes of one beginning have the same, others don't.
func TestNonce(t *testing.T) {
	want := tape("nonces", 320)
	x, y, z := cell.Wind([]byte("nonces")), cell.Wind([]byte("nonces")), cell.Wind([]byte("nonce"))
	for i := range 20 {
		n := x.Nonce()
		checkBytes(t, n[:], want[16*i:16*i+16])
		if y.Nonce() != n || z.Nonce() == n {
			t.Error(i)
		}
	}
}

// P1, P9.1: of no beginning; a tape that Wind didn't make ends, too.
func TestNoBeginning(t *testing.T) {
	checkBytes(t, cell.Wind(nil).Next(40), tape("", 40))
	checkBytes(t, cell.Wind([]byte{}).Next(40), tape("", 40))
	bare := new(cell.Tape)
	bare.Next(5)
	bare.Nonce()
}

// Rule 4: the beginning isn't changed, its spare room neither, and isn't kept.
func TestBeginning(t *testing.T) {
	room := []byte("begin and spare room, more than a count's eight bytes")
	x := cell.Wind(room[:5])
	checkBytes(t, x.Next(40), tape("begin", 40))
	if string(room) != "begin and spare room, more than a count's eight bytes" {
		t.Error(string(room))
	}
	clear(room)
	checkBytes(t, x.Next(100), tape("begin", 140)[40:])
}

// Rule 4: answers are new memory.
func TestNextIsNew(t *testing.T) {
	want := tape("new", 100)
	x := cell.Wind([]byte("new"))
	one := x.Next(20)
	kept := bytes.Clone(one)
	two := x.Next(30)
	for i := range two[:cap(two)] {
		two[:cap(two)][i] = 77
	}
	checkBytes(t, one, kept)
	one = one[:cap(one)]
	clear(one)
	checkBytes(t, x.Next(50), want[50:])
	checkBytes(t, two[:30], bytes.Repeat([]byte{77}, 30))
}
