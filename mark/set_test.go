package mark_test

import (
	"fmt"
	"math"
	"math/rand"
	"testing"

	"hypogeum/api"
	"hypogeum/mark"
)

// names: n, unlike, not rising, of these numbers on.
func names(from, n int) []api.Id {
	var l []api.Id
	for i := range n {
		l = append(l, idOf(1, fmt.Append(nil, from+i)))
	}
	return l
}

// P19.1: a set of names as of one kind; a name that comes twice is there once.
func TestOf(t *testing.T) {
	for _, kind := range []int{1, 2} {
		for n := range 6 {
			w := words{}
			l := names(0, n)
			for _, id := range l {
				w[id] = kind
			}
			checkSet(t, "once", mark.Of(kind, l...), w)
			checkSet(t, "twice", mark.Of(kind, append(l, l...)...), w)
		}
		checkSet(t, "noughts", mark.Of(kind, api.Id{}), words{{}: kind})
	}
	// Kinds that are none: the names are there all the same, so nobody takes them for such as aren't needed.
	for _, kind := range []int{0, 3, -1, math.MinInt, math.MaxInt} {
		l := names(0, 2)
		checkSet(t, fmt.Sprint(kind), mark.Of(kind, l...), words{l[0]: kind, l[1]: kind})
		checkSet(t, fmt.Sprint(kind), mark.Join(mark.Of(kind, l[0]), mark.Of(1, l...)), words{l[0]: kind, l[1]: 1})
	}
	// Rising byte by byte: the first byte that differs counts, as a number without a sign.
	l := []api.Id{{}, {31: 1}, {31: 255}, {30: 1}, {1: 200, 31: 9}, {127}, {128}, {200, 1}, {200, 2}, {255}}
	got := mark.Of(1, l[7], l[2], l[9], l[0], l[4], l[6], l[1], l[8], l[3], l[5]).Ids()
	for i := range l {
		if len(got) != len(l) || got[i] != l[i] {
			t.Fatal(i, got)
		}
	}
}

// P19.1: no set, and sets that Of and Join didn't make, have none.
func TestNoSet(t *testing.T) {
	for what, s := range map[string]*mark.Set{"nil": nil, "new": new(mark.Set), "none": mark.Of(1), "join of none": mark.Join(), "join of nil": mark.Join(nil, nil), "join of nothing": mark.Join(nil, mark.Of(2), new(mark.Set))} {
		checkSet(t, what, s, words{})
		if s.Has(api.Id{}) || s.Kind(api.Id{}) != 0 {
			t.Error(what)
		}
	}
	if mark.Of(1) == nil || mark.Join() == nil || mark.Join(nil) == nil {
		t.Error("no set is answered")
	}
}

// P19.1: what is in one of several, with the kind of the first that has it.
func TestJoin(t *testing.T) {
	a, b := names(0, 4), names(2, 4) // the third and fourth of a are the first and second of b
	as, bs := mark.Of(1, a...), mark.Of(2, b...)
	first, second := words{}, words{}
	for i := range 4 {
		first[a[i]], second[b[i]] = 1, 2
	}
	for i := range 4 {
		if _, ok := first[b[i]]; !ok {
			first[b[i]] = 2
		}
		if _, ok := second[a[i]]; !ok {
			second[a[i]] = 1
		}
	}
	checkSet(t, "a, b", mark.Join(as, bs), first)
	checkSet(t, "b, a", mark.Join(bs, as), second)
	checkSet(t, "with nil ones", mark.Join(nil, as, nil, bs, nil), first)
	checkSet(t, "a, b, a, b", mark.Join(as, bs, as, bs), first)
	checkSet(t, "of joins", mark.Join(mark.Join(as), mark.Join(bs, as)), first)
	checkSet(t, "a", as, words{a[0]: 1, a[1]: 1, a[2]: 1, a[3]: 1}) // as it was
	checkSet(t, "b", bs, words{b[0]: 2, b[1]: 2, b[2]: 2, b[3]: 2})
}

// P19.1: joins of sets by chance, against maps.
func TestJoinScripts(t *testing.T) {
	chance := rand.New(rand.NewSource(2))
	all := names(0, 30)
	sets, models := []*mark.Set{nil}, []words{{}}
	for range 400 {
		if chance.Intn(3) == 0 {
			kind, w := 1+chance.Intn(2), words{}
			var l []api.Id
			for range chance.Intn(6) {
				id := all[chance.Intn(len(all))]
				l, w[id] = append(l, id), kind
			}
			sets, models = append(sets, mark.Of(kind, l...)), append(models, w)
		} else {
			var l []*mark.Set
			w := words{}
			for range chance.Intn(4) {
				i := chance.Intn(len(sets))
				l = append(l, sets[i])
				for id, kind := range models[i] {
					if _, ok := w[id]; !ok {
						w[id] = kind
					}
				}
			}
			sets, models = append(sets, mark.Join(l...)), append(models, w)
		}
	}
	for i, s := range sets {
		checkSet(t, fmt.Sprint(i), s, models[i])
	}
}

// P19.1, rule 4: what is handed in isn't kept or changed; answers are new memory.
func TestSetsKeepNothing(t *testing.T) {
	room := names(0, 5)
	s := mark.Of(1, room[:3]...)
	want := words{room[0]: 1, room[1]: 1, room[2]: 1}
	for i, id := range names(0, 5) {
		if room[i] != id {
			t.Error("changed", i)
		}
	}
	clear(room)
	checkSet(t, "kept", s, want)
	clear(s.Ids())
	checkSet(t, "answered", s, want)
	l := []*mark.Set{s, mark.Of(2, names(9, 1)...), mark.Of(2, names(10, 1)...)}
	mark.Join(l[:2]...)
	if l[0] != s || l[2].Count() != 1 {
		t.Error("the list was changed")
	}
	checkSet(t, "joined", s, want)
}
