package prune_test

import (
	"fmt"
	"math/rand"
	"slices"
	"testing"

	"hypogeum/api"
	"hypogeum/index"
	"hypogeum/mark"
	"hypogeum/pack"
	"hypogeum/prune"
)

// packOf: a pack of that name that has pieces of these numbers; below 0: directories.
func packOf(name string, blobs ...int) index.Pack {
	p := index.Pack{Name: name}
	for i, n := range blobs {
		p.Entries = append(p.Entries, entry(i, n))
	}
	return p
}

// entry: that of a blob, as the i-th of its pack.
func entry(i, n int) pack.Entry {
	if n < 0 {
		return pack.Entry{Id: api.Id{byte(-n)}, Kind: 2, Off: 100 * i, Len: 60}
	}
	return pack.Entry{Id: api.Id{byte(n)}, Kind: 1, Off: 100 * i, Len: 50}
}

// at: the place of that entry.
func at(pack string, i, n int) index.Place {
	return index.Place{Pack: pack, Entry: entry(i, n)}
}

// ids: the names of blobs of these numbers.
func ids(l ...int) []api.Id {
	var names []api.Id
	for _, n := range l {
		names = append(names, api.Id{byte(max(n, -n))})
	}
	return names
}

// need: these blobs, each as what it is.
func need(l ...int) *mark.Set {
	s := mark.Of(1)
	for _, n := range l {
		if n < 0 {
			s = mark.Join(s, mark.Of(2, ids(n)...))
		} else {
			s = mark.Join(s, mark.Of(1, ids(n)...))
		}
	}
	return s
}

func checkPlan(t *testing.T, what string, got, want prune.Plan) {
	t.Helper()
	if !alike(got, want) {
		t.Errorf("%s: %v, not %v", what, got, want)
	}
}

func checkMissing(t *testing.T, what string, set *mark.Set, packs []index.Pack, want ...api.Id) {
	t.Helper()
	if got := prune.Missing(set, packs...); !slices.Equal(got, want) {
		t.Errorf("%s: Missing: %v, not %v", what, got, want)
	}
}

// P20.1: the document's example.
func TestExample(t *testing.T) {
	a, b := packOf("p/a", 1, 2), packOf("p/b", 2, 3)
	want := prune.Plan{Gone: []string{"p/a", "p/b"}, Move: []index.Place{at("p/a", 1, 2), at("p/b", 1, 3)}}
	checkPlan(t, "the example", prune.Make(need(2, 3), a, b), want)
	checkPlan(t, "the other way", prune.Make(need(2, 3), b, a), want)
}

// P20.1: each way in which a pack stays, or doesn't.
func TestMake(t *testing.T) {
	a, b := packOf("p/a", 1, 2), packOf("p/b", 2, 3)
	for what, x := range map[string]struct {
		need  *mark.Set
		packs []index.Pack
		want  prune.Plan
	}{
		"nothing":            {need(), nil, prune.Plan{}},
		"no packs":           {need(1, 2), nil, prune.Plan{}},
		"no set":             {nil, []index.Pack{b, a}, prune.Plan{Gone: []string{"p/a", "p/b"}}},
		"none needed":        {need(4, -1, -2, -3), []index.Pack{a, b}, prune.Plan{Gone: []string{"p/a", "p/b"}}},
		"all":                {need(1, 2), []index.Pack{a}, prune.Plan{Stay: []index.Pack{a}}},
		"all, and more":      {need(1, 2, 3, -4), []index.Pack{a}, prune.Plan{Stay: []index.Pack{a}}},
		"two":                {need(1, 2, 3), []index.Pack{packOf("p/c", 3), a}, prune.Plan{Stay: []index.Pack{a, packOf("p/c", 3)}}},
		"one twice":          {need(1, 2, 3), []index.Pack{b, a}, prune.Plan{Stay: []index.Pack{a}, Gone: []string{"p/b"}, Move: []index.Place{at("p/b", 1, 3)}}},
		"home elsewhere":     {need(1, 2), []index.Pack{a, packOf("p/b", 2)}, prune.Plan{Stay: []index.Pack{a}, Gone: []string{"p/b"}}},
		"the same twice":     {need(1, 2), []index.Pack{packOf("p/z", 1, 2), packOf("p/y", 2, 1)}, prune.Plan{Stay: []index.Pack{packOf("p/y", 2, 1)}, Gone: []string{"p/z"}}},
		"home in what goes":  {need(2, 3), []index.Pack{a, packOf("p/b", 2), packOf("p/c", 3)}, prune.Plan{Stay: []index.Pack{packOf("p/c", 3)}, Gone: []string{"p/a", "p/b"}, Move: []index.Place{at("p/a", 1, 2)}}},
		"as they stand":      {need(1, 3, 5, 9), []index.Pack{packOf("p/b", 9, 2), packOf("p/a", 5, 4, 3, 2, 1)}, prune.Plan{Gone: []string{"p/a", "p/b"}, Move: []index.Place{at("p/a", 0, 5), at("p/a", 2, 3), at("p/a", 4, 1), at("p/b", 0, 9)}}},
		"directories":        {need(-1, 2), []index.Pack{packOf("p/a", -1, 2)}, prune.Plan{Stay: []index.Pack{packOf("p/a", -1, 2)}}},
		"of another kind":    {need(1, 2), []index.Pack{packOf("p/a", -1, 2)}, prune.Plan{Gone: []string{"p/a"}, Move: []index.Place{at("p/a", 1, 2)}}},
		"the lesser another": {need(-1), []index.Pack{packOf("p/a", 1), packOf("p/b", -1)}, prune.Plan{Stay: []index.Pack{packOf("p/b", -1)}, Gone: []string{"p/a"}}},
		"the last counts":    {need(3, 4), []index.Pack{a, packOf("p/a", 5), packOf("p/a", 3, 4)}, prune.Plan{Stay: []index.Pack{packOf("p/a", 3, 4)}}},
		"the last doesn't":   {need(3, 4), []index.Pack{packOf("p/a", 3, 4), packOf("p/b", 3), a}, prune.Plan{Stay: []index.Pack{packOf("p/b", 3)}, Gone: []string{"p/a"}}},
		"byte by byte":       {need(1), []index.Pack{packOf("p/b", 1), packOf("p/aa", 1), packOf("p/-", 1), packOf("p/a", 1)}, prune.Plan{Stay: []index.Pack{packOf("p/-", 1)}, Gone: []string{"p/a", "p/aa", "p/b"}}},
		"without blobs":      {need(1), []index.Pack{packOf("p/b", 1), packOf("p/a")}, prune.Plan{Stay: []index.Pack{packOf("p/a"), packOf("p/b", 1)}}},
		"other names":        {need(1), []index.Pack{packOf("", 1), packOf("X", 1, 2)}, prune.Plan{Stay: []index.Pack{packOf("", 1)}, Gone: []string{"X"}}},
		"kinds that are none": {mark.Of(3, ids(1)...), []index.Pack{{Name: "p/a", Entries: []pack.Entry{{Id: api.Id{1}}}}, packOf("p/b", 1, -1)},
			prune.Plan{Gone: []string{"p/a", "p/b"}}},
		"kind 0, not needed": {need(2), []index.Pack{{Name: "p/a", Entries: []pack.Entry{{Id: api.Id{1}}}}}, prune.Plan{Gone: []string{"p/a"}}},
	} {
		checkPlan(t, what, prune.Make(x.need, x.packs...), x.want)
		if byKind := planOf(kindsOf(x.need), x.packs); !alike(byKind, x.want) {
			t.Error(what, "by the words:", byKind)
		}
	}
}

// kindsOf: what a set has.
func kindsOf(s *mark.Set) map[api.Id]int {
	m := map[api.Id]int{}
	for _, id := range s.Ids() {
		m[id] = s.Kind(id)
	}
	return m
}

// P20.1: what is missing.
func TestMissing(t *testing.T) {
	a, b := packOf("p/a", 1, 2), packOf("p/b", 2, 3)
	both := []index.Pack{b, a}
	checkMissing(t, "nothing", nil, nil)
	checkMissing(t, "no set", nil, both)
	checkMissing(t, "none needed", need(), both)
	checkMissing(t, "no packs", need(9, 1, -5), nil, ids(1, 5, 9)...)
	checkMissing(t, "all there", need(1, 2, 3), both)
	checkMissing(t, "some", need(200, 3, 130, 2, 127), both, ids(127, 130, 200)...)
	checkMissing(t, "of another kind", need(-1, 2, -3), both, ids(1, 3)...)
	checkMissing(t, "of both kinds", need(-1, 2), []index.Pack{packOf("p/a", 1), packOf("p/b", -1, 2)})
	// Of all packs that are handed in, also of several with one name.
	checkMissing(t, "one name", need(1, 2, 3, 4), []index.Pack{a, packOf("p/a", 3), packOf("p/a", 9)}, ids(4)...)
	checkMissing(t, "without blobs", need(1), []index.Pack{packOf("p/a")}, ids(1)...)
}

// P20.1: packs by chance, against the document's words.
func TestPlanScripts(t *testing.T) {
	chance := rand.New(rand.NewSource(1))
	for i := range 4000 {
		var packs []index.Pack
		for range chance.Intn(6) {
			p := index.Pack{Name: fmt.Sprint("p/", chance.Intn(8))}
			for j, n := range chance.Perm(9)[:chance.Intn(4)] {
				if n++; chance.Intn(6) == 0 {
					n = -n
				}
				p.Entries = append(p.Entries, entry(j, n))
			}
			packs = append(packs, p)
		}
		var l []int
		for n := range 10 {
			switch chance.Intn(8) {
			case 0:
				l = append(l, -n-1)
			case 1, 2, 3, 4, 5:
				l = append(l, n+1)
			}
		}
		set := need(l...)
		want := planOf(kindsOf(set), packs)
		checkPlan(t, fmt.Sprint(i), prune.Make(set, packs...), want)
		var missing []api.Id
		for _, id := range set.Ids() {
			if !slices.ContainsFunc(packs, func(p index.Pack) bool {
				return slices.ContainsFunc(p.Entries, func(x pack.Entry) bool { return x.Id == id && x.Kind == set.Kind(id) })
			}) {
				missing = append(missing, id)
			}
		}
		checkMissing(t, fmt.Sprint(i), set, packs, missing...)
	}
}

// P20.1, rule 4: what is handed in isn't changed, its spare room neither, and not kept; what is answered is new memory.
func TestMakeKeepsNothing(t *testing.T) {
	given := func() []index.Pack {
		return []index.Pack{packOf("p/c", 1, 2), packOf("p/b", 3, 9), packOf("p/a", 4), packOf("p/0", 5)}
	}
	room := given()
	room[1].Entries = room[1].Entries[:1] // 9 is spare room
	room[0].Entries = append(make([]pack.Entry, 0, 9), room[0].Entries...)
	set := need(1, 2, 3)
	want := prune.Plan{Stay: []index.Pack{packOf("p/b", 3), packOf("p/c", 1, 2)}, Gone: []string{"p/a"}}
	plan := prune.Make(set, room[:3]...)
	checkPlan(t, "the plan", plan, want)
	prune.Missing(set, room[:3]...)
	if room[1].Entries = room[1].Entries[:2]; !alikePacks(room, given()) || kindsOf(set)[api.Id{2}] != 1 || set.Count() != 3 {
		t.Error("changed")
	}
	for _, p := range room {
		clear(p.Entries)
	}
	clear(room)
	checkPlan(t, "kept", plan, want)
	packs := given()
	plan, other := prune.Make(set, packs...), prune.Make(set, packs...)
	for _, p := range plan.Stay {
		clear(p.Entries)
	}
	clear(plan.Stay)
	checkPlan(t, "shared", other, prune.Make(set, given()...))
	if !alikePacks(packs, given()) {
		t.Error("shared with what was handed in")
	}
	// Two packs with one list.
	one := packOf("p/a", 1)
	plan = prune.Make(need(1), one, index.Pack{Name: "p/a", Entries: one.Entries}, index.Pack{Name: "p/b", Entries: one.Entries[:0]})
	clear(plan.Stay[0].Entries)
	if len(plan.Stay) != 2 || one.Entries[0].Id != (api.Id{1}) {
		t.Error("shared with what was handed in")
	}
}
