package cell_test

import (
	"math"
	"math/rand"
	"testing"

	"hypogeum/api"
	"hypogeum/cell"
	"hypogeum/shelf"
)

const (
	mostNumber = 1<<62 - 1
	mostTime   = 1 << 40
)

// made: a cell, and the store by whose power it is.
func made(t *testing.T) (*cell.Cell, *shelf.Shelf) {
	t.Helper()
	s, e := shelf.New(1000)
	if e != api.OK {
		t.Fatal(e)
	}
	c, e := cell.New(s)
	if c == nil || e != api.OK {
		t.Fatal(c, e)
	}
	return c, s
}

func want(t *testing.T, what string, got, e api.Errno) {
	t.Helper()
	if got != e {
		t.Errorf("%s: %d, not %d", what, got, e)
	}
}

func checkRead(t *testing.T, c *cell.Cell, n int, want api.Errno) {
	t.Helper()
	if got, e := c.Read(); got != n || e != want {
		t.Errorf("Read() = %d, %d, not %d, %d", got, e, n, want)
	}
}

// P9.1: the document's example.
func TestExample(t *testing.T) {
	c, s := made(t)
	want(t, "Raise", c.Raise(5), api.OK)
	want(t, "Raise", c.Raise(5), api.ErrArg)
	s.Crash()
	checkRead(t, c, 5, api.OK)
}

// P9.1: New without a store.
func TestNewWrong(t *testing.T) {
	if c, e := cell.New(nil); c != nil || e != api.ErrArg {
		t.Error(c, e)
	}
}

// P9.1: a number is above the one that is there, and 2^62 - 1 at most.
func TestRaise(t *testing.T) {
	c, _ := made(t)
	checkRead(t, c, 0, api.OK)
	was := 0
	for _, n := range []int{1, 2, 1000, 1 << 40, mostNumber - 1, mostNumber} {
		for _, m := range []int{was, was - 1, -1, 0, math.MinInt, mostNumber + 1, math.MaxInt} {
			want(t, "Raise", c.Raise(m), api.ErrArg)
			checkRead(t, c, was, api.OK)
		}
		want(t, "Raise", c.Raise(n), api.OK)
		checkRead(t, c, n, api.OK)
		was = n
	}
	want(t, "Raise", c.Raise(mostNumber), api.ErrArg)
	want(t, "Raise", c.Raise(mostNumber+1), api.ErrArg)
	checkRead(t, c, mostNumber, api.OK)
}

// P9.1: Raise is a change of the store, if it answers OK; Read is none.
func TestRaiseIsAChange(t *testing.T) {
	c, s := made(t)
	c.Raise(3)
	c.Raise(3)
	c.Raise(-1)
	c.Read()
	if s.Steps() != 1 {
		t.Error(s.Steps())
	}
	s.Arm(2)
	want(t, "Raise", c.Raise(4), api.OK)
	want(t, "Raise", c.Raise(2), api.ErrArg)
	want(t, "Nudge", s.Nudge(), api.OK)
	want(t, "Raise", c.Raise(mostNumber+1), api.ErrArg)
	checkRead(t, c, 4, api.OK)
	want(t, "Raise", c.Raise(5), api.ErrDown)
	if !s.Off() || s.Steps() != 3 {
		t.Error(s.Off(), s.Steps())
	}
	s.Crash()
	checkRead(t, c, 4, api.OK)
	want(t, "Raise", c.Raise(5), api.OK)
}

// P9.1: without power: ErrDown, ahead of ErrArg; rule 2: no number.
func TestDown(t *testing.T) {
	c, s := made(t)
	c.Raise(7)
	s.Arm(0)
	s.Nudge()
	for range 2 {
		for _, n := range []int{8, 7, 0, -1, mostNumber + 1} {
			want(t, "Raise", c.Raise(n), api.ErrDown)
			checkRead(t, c, 0, api.ErrDown)
		}
	}
	s.Crash(1, 2, 3)
	checkRead(t, c, 7, api.OK)
	want(t, "Raise", c.Raise(7), api.ErrArg)
	want(t, "Raise", c.Raise(8), api.OK)
}

// P9.1: whoever changes the store doesn't change the number; cells of one store don't meddle with each other.
func TestNobodyElse(t *testing.T) {
	c, s := made(t)
	d, _ := cell.New(s)
	i := s.Photo()
	c.Raise(7)
	d.Raise(2)
	names, _ := s.List("")
	if len(names) != 0 || s.Used() != 0 {
		t.Error("it is in the store:", names)
	}
	s.Forge("cell", []byte("9"))
	s.Restore(i)
	s.Put("a")
	s.Crash()
	checkRead(t, c, 7, api.OK)
	checkRead(t, d, 2, api.OK)
}

// P9.2: whatever comes, the number never falls, and it is the last one to which it was raised.
func TestNeverFalls(t *testing.T) {
	for seed := range int64(50) {
		chance := rand.New(rand.NewSource(seed))
		c, s := made(t)
		i := s.Photo()
		was := 0
		for range 200 {
			switch chance.Intn(6) {
			case 0:
				s.Arm(chance.Intn(4))
			case 1:
				s.Crash(chance.Int())
			case 2:
				s.Restore(i)
			default:
				n := was + chance.Intn(10) - 5
				if chance.Intn(10) == 0 {
					n = chance.Int() - chance.Int()
				}
				if c.Raise(n) == api.OK {
					if n <= was {
						t.Fatal(seed, "raised from", was, "to", n)
					}
					was = n
				}
			}
			if s.Off() {
				checkRead(t, c, 0, api.ErrDown)
			} else {
				checkRead(t, c, was, api.OK)
			}
		}
	}
}

// P9.1: a clock goes on, to 2^40 at most.
func TestClock(t *testing.T) {
	var c cell.Clock
	check := func(now int) {
		t.Helper()
		if c.Now() != now {
			t.Error(c.Now(), "not", now)
		}
	}
	check(0)
	for _, n := range []int{-1, math.MinInt, mostTime + 1, math.MaxInt} {
		want(t, "Tick", c.Tick(n), api.ErrArg)
	}
	want(t, "Tick", c.Tick(0), api.OK)
	check(0)
	want(t, "Tick", c.Tick(1000), api.OK)
	want(t, "Tick", c.Tick(1), api.OK)
	check(1001)
	for _, n := range []int{-1, -1001, math.MinInt, mostTime - 1000, mostTime, math.MaxInt} {
		want(t, "Tick", c.Tick(n), api.ErrArg)
		check(1001)
	}
	want(t, "Tick", c.Tick(mostTime-1001), api.OK)
	check(mostTime)
	want(t, "Tick", c.Tick(1), api.ErrArg)
	want(t, "Tick", c.Tick(0), api.OK)
	check(mostTime)
	c = cell.Clock{}
	want(t, "Tick", c.Tick(mostTime), api.OK)
	check(mostTime)
}

// P1, P9.1: nil ones, and a cell that New didn't make.
func TestNilOnes(t *testing.T) {
	var c *cell.Cell
	checkRead(t, c, 0, api.ErrArg)
	want(t, "Raise", c.Raise(1), api.ErrArg)
	want(t, "Raise", c.Raise(-1), api.ErrArg)
	var k *cell.Clock
	want(t, "Tick", k.Tick(1), api.ErrArg)
	want(t, "Tick", k.Tick(-1), api.ErrArg)
	if k.Now() != 0 {
		t.Error(k.Now())
	}
	var x *cell.Tape
	if x.Nonce() != [16]byte{} || len(x.Next(5)) != 0 || len(x.Next(-5)) != 0 {
		t.Error("a nil tape has bytes")
	}
	bare := new(cell.Cell)
	bare.Read()
	bare.Raise(1)
}
