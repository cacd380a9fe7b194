package log_test

import (
	"math"
	"math/rand"
	"slices"
	"strings"
	"testing"

	"hypogeum/api"
	"hypogeum/log"
)

func record(kind, seq, time int) log.Record {
	return log.Record{Kind: kind, Snap: api.Snap{Seq: seq, Time: time, Note: "n", Root: api.Id{byte(time)}}}
}

// P18.1: which snapshots records leave: the times of those.
func TestFold(t *testing.T) {
	const m, f = log.Made, log.Forgot
	for i, x := range []struct {
		l    []log.Record
		want []int
	}{
		{nil, nil},
		{[]log.Record{}, nil},
		{[]log.Record{record(m, 1, 1)}, []int{1}},
		{[]log.Record{record(f, 1, 1)}, nil},
		{[]log.Record{record(m, 1, 1), record(m, 2, 2), record(f, 1, 3)}, []int{2}},
		{[]log.Record{record(m, 1, 1), record(m, 2, 2), record(f, 2, 3)}, []int{1}},
		{[]log.Record{record(m, 1, 1), record(f, 1, 2), record(f, 1, 3)}, nil},
		{[]log.Record{record(f, 1, 1), record(m, 1, 2)}, []int{2}},                                   // no later one names it
		{[]log.Record{record(m, 1, 1), record(f, 1, 2), record(m, 1, 3)}, []int{3}},                  // made anew
		{[]log.Record{record(m, 1, 1), record(m, 1, 2), record(f, 1, 3), record(m, 2, 4)}, []int{4}}, // it names both
		{[]log.Record{record(m, 3, 1), record(m, 1, 2), record(m, 2, 3)}, []int{1, 2, 3}},            // in the records' order
		{[]log.Record{record(m, 7, 1), record(f, 1, 2), record(f, 2, 3)}, []int{1}},                  // by Seq, not by where it stands
		{[]log.Record{record(m, 0, 1), record(m, -1, 2), record(m, math.MaxInt, 3), record(m, math.MinInt, 4), record(f, -1, 5)}, []int{1, 3, 4}},
		{[]log.Record{record(m, 1, 1), record(0, 1, 2), record(3, 1, 3), record(-2, 1, 4), record(m, 5, 5)}, []int{1, 5}}, // other kinds are neither
	} {
		got := log.Fold(x.l...)
		var times []int
		for _, s := range got {
			times = append(times, s.Time)
		}
		if !slices.Equal(times, x.want) || !slices.Equal(got, snaps(x.l...)) {
			t.Error(i, got)
		}
	}
}

// P18.1: any records, held against the document's words.
func TestFoldScripts(t *testing.T) {
	for seed := range 300 {
		chance := rand.New(rand.NewSource(int64(seed)))
		var l []log.Record
		for i := range chance.Intn(60) {
			l = append(l, record(1+chance.Intn(9)%4, chance.Intn(20)-2, i))
		}
		if got, want := log.Fold(l...), snaps(l...); !slices.Equal(got, want) {
			t.Error(seed, got, want)
		}
	}
}

// P18.1: many records.
func TestFoldMany(t *testing.T) {
	const n = 100000
	var l []log.Record
	for i := range n {
		l = append(l, record(log.Made, i, i))
	}
	for i := range n - 1 {
		l = append(l, record(log.Forgot, i, 0))
	}
	if got := log.Fold(l...); len(got) != 1 || got[0] != l[n-1].Snap {
		t.Error(len(got))
	}
	if got := log.Fold(l[:n]...); len(got) != n || got[7].Seq != 7 {
		t.Error(len(got))
	}
}

// P18.1: Snaps is Fold of Records.
func TestSnapsAreFolded(t *testing.T) {
	p := newPlace(t, room)
	l := p.open("t")
	for _, r := range history() {
		addAll(t, l, r)
		if got, want := l.Snaps(), log.Fold(l.Records()...); !slices.Equal(got, want) {
			t.Error(got, want)
		}
	}
	if got := l.Snaps(); len(got) != 2 || got[0].Seq != 4 || got[1].Seq != 8 || got[1].Note != made(8).Note || got[1].Time != made(8).Time {
		t.Error(got)
	}
}

// P18.4: what is handed in isn't changed, its spare room neither, and answers are new memory.
func TestKeepsNothing(t *testing.T) {
	l := append(history(), made(9), made(10))
	was := slices.Clone(l)
	a := log.Fold(l[:5]...)
	b := log.Fold(l[:5]...)
	if !slices.Equal(l, was) {
		t.Error("Fold changes its records")
	}
	clear(a)
	clear(l)
	if !slices.Equal(b, snaps(was[:5]...)) {
		t.Error("answers share memory")
	}

	p, x := written(t)
	want := numbered(history()...)
	records, snapshots := x.Records(), x.Snaps()
	clear(records[:cap(records)])
	clear(snapshots[:cap(snapshots)])
	_ = append(x.Records()[:2], made(5))
	checkRecords(t, "changed outside", x, want...)
	add(t, x, forgot(4), 9)
	p.checkOpened("changed outside", append(want, forgot(4))...)

	r := made(3)
	r.Note = strings.Clone("a note")
	was = []log.Record{r}
	add(t, x, r, 10)
	if r != was[0] {
		t.Error("Add changes its record")
	}
}
