package log

import (
	"math"
	"strconv"
	"strings"

	"hypogeum/api"
	"hypogeum/glyph"
	"hypogeum/sum"
)

// recordKind is what a record is sealed as, and its glyph's kind.
const recordKind = 0x73

// place is where records lie; their numbers have so many digits there.
const (
	place       = "s/"
	digits      = 8
	mostRecords = 99999999
)

const (
	mostNote = 1000
	mostTime = 1 << 40
)

// name: that of a record's object.
func name(n int) string {
	t := strconv.Itoa(n)
	return place + strings.Repeat("0", max(digits-len(t), 0)) + t
}

// isRecord: is it the name of one of so many records?
func isRecord(object string, count int) bool {
	t, _ := strings.CutPrefix(object, place)
	n, e := strconv.Atoi(t)
	// A number that is told in another way than this one has another name.
	return e == nil && n >= 1 && n <= min(count, mostRecords) && name(n) == object
}

// inForm: is it one, whatever stands ahead of it?
func (r Record) inForm() bool {
	if r.Time < 0 || r.Time > mostTime {
		return false
	}
	switch r.Kind {
	case Made:
		return len(r.Note) <= mostNote
	case Forgot:
		return r.Note == "" && r.Root == api.Id{}
	}
	return false
}

// bytes: what is sealed of it, behind an object with that sum.
func (r Record) bytes(chain [sum.Size]byte) ([]byte, api.Errno) {
	return glyph.Begin(recordKind).Raw(chain[:]).Num(r.Kind, r.Seq, r.Time).Text(r.Note).Raw(r.Root[:]).Bytes()
}

// opened: a record, and the sum of the object ahead, of what was sealed; false: there is none in these bytes.
func opened(b []byte) (Record, [sum.Size]byte, bool) {
	in := glyph.Open(recordKind, b)
	var r Record
	var chain [sum.Size]byte
	copy(chain[:], in.Raw(len(chain)))
	r.Kind, r.Seq, r.Time = in.Num(math.MaxInt), in.Num(math.MaxInt), in.Num(math.MaxInt)
	r.Note = in.Text(mostNote)
	copy(r.Root[:], in.Raw(len(r.Root)))
	return r, chain, in.End() == api.OK
}
