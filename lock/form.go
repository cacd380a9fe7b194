package lock

import (
	"math"
	"strconv"
	"strings"

	"hypogeum/api"
	"hypogeum/glyph"
)

// lockKind is what a lock is sealed as, and its glyph's kind.
const lockKind = 0x6C

// Where locks and their drafts lie.
const (
	lockPlace  = "l/"
	draftPlace = "k/"
)

// mostClient is the greatest client's number.
const mostClient = 99

// lock is one, as its name and its bytes say.
type lock struct {
	client int
	count  int // how many the client made ahead
	alone  bool
	time   int
}

// name: its object's.
func (k lock) name() string {
	return lockPlace + digits(k.client) + "-" + strconv.Itoa(k.count)
}

// draft: its draft's name.
func (k lock) draft() string {
	return draftPlace + digits(k.client)
}

// bytes: what is sealed of it.
func (k lock) bytes() ([]byte, api.Errno) {
	return glyph.Begin(lockKind).Num(k.client).Flag(k.alone).Num(k.time).Bytes()
}

// holds: or is it stale by now?
func (k lock) holds(now int) bool {
	return now-k.time <= Stale
}

// meets: may the one not be, while the other, of another client, holds?
func (k lock) meets(other lock) bool {
	return k.alone || other.alone
}

// named: a lock of that name, of which nothing else is known yet; false: no lock has it.
func named(name string) (lock, bool) {
	rest, _ := strings.CutPrefix(name, lockPlace)
	client, count, _ := strings.Cut(rest, "-")
	var k lock
	k.client, _ = strconv.Atoi(client)
	k.count, _ = strconv.Atoi(count)
	// What isn't told in this one way is another name than the one that comes of it.
	return k, isClient(k.client) && k.count >= 0 && k.name() == name
}

// opened: the lock k, with what was sealed of it; false: these bytes are none of it.
func (k lock) opened(b []byte) (lock, bool) {
	in := glyph.Open(lockKind, b)
	client := in.Num(math.MaxInt)
	k.alone = in.Flag()
	k.time = in.Num(math.MaxInt)
	return k, in.End() == api.OK && client == k.client
}

func isClient(n int) bool {
	return n >= 0 && n <= mostClient
}

// digits: a client's two.
func digits(client int) string {
	return strconv.Itoa(client/10) + strconv.Itoa(client%10)
}
