package index_test

import (
	"bytes"
	"math/rand"
	"slices"
	"strings"
	"testing"

	"hypogeum/api"
	"hypogeum/index"
	"hypogeum/pack"
)

// holding: a pack with blobs of these numbers, which lie otherwise in each pack.
func holding(name string, ids ...byte) index.Pack {
	p := index.Pack{Name: name}
	off := int(name[len(name)-1])
	for _, id := range ids {
		p.Entries = append(p.Entries, pack.Entry{Id: api.Id{id}, Kind: 1 + int(id)%2, Off: off, Len: 48 + int(id)})
		off += 48 + int(id)
	}
	return p
}

// model is a table by the document's words: packs, each name once.
type model []index.Pack

func (m *model) add(p index.Pack) {
	m.drop(p.Name)
	*m = append(*m, p)
	slices.SortFunc(*m, func(a, b index.Pack) int { return strings.Compare(a.Name, b.Name) })
}

func (m *model) drop(name string) {
	*m = slices.DeleteFunc(*m, func(p index.Pack) bool { return p.Name == name })
}

func (m model) find(id api.Id) (index.Place, bool) {
	for _, p := range m {
		for _, x := range p.Entries {
			if x.Id == id {
				return index.Place{Pack: p.Name, Entry: x}, true
			}
		}
	}
	return index.Place{}, false
}

func (m model) ids() []api.Id {
	var l []api.Id
	for _, p := range m {
		for _, x := range p.Entries {
			l = append(l, x.Id)
		}
	}
	slices.SortFunc(l, func(a, b api.Id) int { return bytes.Compare(a[:], b[:]) })
	return slices.Compact(l)
}

// checkTable: it tells what the packs say, of their blobs and of others.
func checkTable(t *testing.T, x *index.Table, l ...index.Pack) {
	t.Helper()
	var m model
	for _, p := range l {
		m.add(p)
	}
	if got := x.Packs(); !alikePacks(got, m) {
		t.Errorf("Packs: %v, not %v", got, m)
	}
	if got := x.Ids(); !slices.Equal(got, m.ids()) {
		t.Errorf("Ids: %v, not %v", got, m.ids())
	}
	for _, id := range append(m.ids(), api.Id{}, api.Id{200}, api.Id{1, 31: 1}) {
		got, ok := x.Find(id)
		if want, there := m.find(id); got != want || ok != there {
			t.Errorf("Find(%x): %v, %v, not %v", id, got, ok, want)
		}
	}
}

// P13.1: the document's example: two packs that have one blob.
func TestTableExample(t *testing.T) {
	a, b := holding("p/a", 1, 2), holding("p/b", 2, 3)
	for _, l := range [][]index.Pack{{a, b}, {b, a}} {
		x := index.New(index.File{Packs: l})
		if p, ok := x.Find(api.Id{2}); !ok || p.Pack != "p/a" || p.Entry != a.Entries[1] {
			t.Error(p, ok)
		}
		x.Drop("p/a")
		if p, ok := x.Find(api.Id{2}); !ok || p.Pack != "p/b" || p.Entry != b.Entries[0] {
			t.Error(p, ok)
		}
		checkTable(t, x, b)
		x.Drop("p/b")
		checkTable(t, x)
	}
}

// P13.1: a new table has the packs of all files; of one name the last one.
func TestNew(t *testing.T) {
	a, b, c := holding("p/a", 1, 2), holding("p/b", 2, 3), holding("p/a", 4)
	checkTable(t, index.New())
	checkTable(t, index.New(index.File{}, index.File{Old: []string{"x/a"}}))
	checkTable(t, index.New(index.File{Packs: []index.Pack{b, a}}), a, b)
	checkTable(t, index.New(index.File{Packs: []index.Pack{a}}, index.File{Packs: []index.Pack{b, c}}), b, c)
	checkTable(t, index.New(index.File{Packs: []index.Pack{c}}, index.File{Packs: []index.Pack{b, a}}), a, b)
}

// P13.1: a pack in the place of one of its name: what only that one had is there no longer.
func TestAddInPlace(t *testing.T) {
	x := index.New()
	x.Add(holding("p/a", 1, 2, 3))
	x.Add(holding("p/b", 3, 4))
	x.Add(holding("p/a", 5))
	checkTable(t, x, holding("p/a", 5), holding("p/b", 3, 4))
	x.Add(holding("p/a", 3), holding("p/a", 4, 3), holding("p/b", 9))
	checkTable(t, x, holding("p/a", 4, 3), holding("p/b", 9))
	x.Add()
	checkTable(t, x, holding("p/a", 4, 3), holding("p/b", 9))
	x.Add(holding("p/b", 9))
	checkTable(t, x, holding("p/a", 4, 3), holding("p/b", 9))
	again := holding("p/a", 4, 3)
	again.Entries[0].Off, again.Entries[0].Len, again.Entries[0].Kind = 700, 77, 2
	x.Add(again)
	checkTable(t, x, again, holding("p/b", 9))
}

// P13.1: what isn't there is dropped by nothing; a name may be dropped twice.
func TestDrop(t *testing.T) {
	x := index.New(index.File{Packs: []index.Pack{holding("p/a", 1, 2), holding("p/b", 2, 3), holding("p/c", 1, 3)}})
	x.Drop()
	x.Drop("p/", "p/aa", "", "x/a")
	checkTable(t, x, holding("p/a", 1, 2), holding("p/b", 2, 3), holding("p/c", 1, 3))
	x.Drop("p/b", "p/b")
	checkTable(t, x, holding("p/a", 1, 2), holding("p/c", 1, 3))
	x.Drop("p/c", "p/a")
	checkTable(t, x)
	x.Add(holding("p/b", 2))
	checkTable(t, x, holding("p/b", 2))
}

// P13.1: names of packs are held byte by byte, and needn't be in form; nor need a pack have blobs.
func TestTableNames(t *testing.T) {
	var l []index.Pack
	for _, name := range []string{"é", "p/b", "p/aa", "\xff", "Z", "p/a", "p/a-", "\x00"} {
		l = append(l, holding(name, 7))
	}
	l = append(l, index.Pack{Name: ""}, index.Pack{Name: "p/none"})
	x := index.New(index.File{Packs: l})
	checkTable(t, x, l...)
	for _, name := range []string{"\x00", "Z", "p/a", "p/a-", "p/aa", "p/b", "é", "\xff"} {
		if p, ok := x.Find(api.Id{7}); !ok || p.Pack != name {
			t.Error(name, p, ok)
		}
		x.Drop(name)
	}
	checkTable(t, x, index.Pack{Name: ""}, index.Pack{Name: "p/none"})
}

// P13.1: Ids rise by all their bytes, each without a sign.
func TestIds(t *testing.T) {
	p := index.Pack{Name: "p/a"}
	for i, id := range []api.Id{{31: 200}, {200}, {31: 1}, {1}, {0: 1, 31: 1}, {}, {15: 128}, {127}, {128}} {
		p.Entries = append(p.Entries, pack.Entry{Id: id, Kind: 1, Off: 48 * i, Len: 48})
	}
	x := index.New(index.File{Packs: []index.Pack{p}})
	want := []api.Id{{}, {31: 1}, {31: 200}, {15: 128}, {1}, {0: 1, 31: 1}, {127}, {128}, {200}}
	if got := x.Ids(); !slices.Equal(got, want) {
		t.Error(got)
	}
}

// P13.1: scripts of all calls, held against a list of packs.
func TestTableScripts(t *testing.T) {
	chance := rand.New(rand.NewSource(6))
	some := func() index.Pack {
		var ids []byte
		for range 1 + chance.Intn(6) {
			if id := byte(chance.Intn(20)); !slices.Contains(ids, id) {
				ids = append(ids, id)
			}
		}
		return holding(numbered("p/", chance.Intn(8)), ids...)
	}
	for range 100 {
		x, m := index.New(), model{}
		for range 40 {
			if chance.Intn(3) == 0 {
				p, q := some(), some()
				x.Drop(p.Name, q.Name)
				m.drop(p.Name)
				m.drop(q.Name)
			} else {
				p, q := some(), some()
				x.Add(p, q)
				m.add(p)
				m.add(q)
			}
			checkTable(t, x, m...)
		}
	}
}

// P13.3: how packs are shared out among files, and in which order they come, is nothing.
func TestSharedOut(t *testing.T) {
	chance := rand.New(rand.NewSource(7))
	var l []index.Pack
	for i := range 12 {
		l = append(l, holding(numbered("p/", i), byte(i), byte(i+1), byte(5*i%13+40), byte(90-i)))
	}
	for range 50 {
		chance.Shuffle(len(l), func(i, j int) { l[i], l[j] = l[j], l[i] })
		files := make([]index.File, 1+chance.Intn(5))
		for _, p := range l {
			f := &files[chance.Intn(len(files))]
			f.Packs = append(f.Packs, p)
		}
		checkTable(t, index.New(files...), l...)
		x := index.New(files[1:]...)
		x.Add(files[0].Packs...)
		checkTable(t, x, l...)
	}
}

// P13.1, P1: no table has nothing, and takes nothing; one that New didn't make is one of no files.
func TestNoTable(t *testing.T) {
	var x *index.Table
	x.Add(holding("p/a", 1))
	x.Drop("p/a")
	checkTable(t, x)
	x = new(index.Table)
	x.Drop("p/a")
	checkTable(t, x)
	x.Add(holding("p/a", 1))
	checkTable(t, x, holding("p/a", 1))
}

// P1: packs whose entries aren't in form may be told in any way, but no call panics; and behind Drop they are gone.
func TestTableOfAnything(t *testing.T) {
	x := index.New(index.File{Packs: []index.Pack{holding("p/b", 1, 1, 2, 1), holding("p/a", 1, 1)}})
	x.Add(index.Pack{Name: "p/c", Entries: []pack.Entry{{Kind: -7, Off: -1, Len: -1}, {}, {}}})
	x.Add(holding("p/a", 2, 2, 1, 2))
	x.Find(api.Id{1})
	x.Ids()
	x.Packs()
	x.Drop("p/c", "p/a")
	x.Add(holding("p/b", 3))
	checkTable(t, x, holding("p/b", 3))
}

// P13.4: what is handed in isn't changed or kept; answers are new memory.
func TestTableKeepsNothing(t *testing.T) {
	room := append(holding("p/a", 1, 2).Entries, pack.Entry{Len: 5})
	f := index.File{Packs: []index.Pack{{Name: "p/a", Entries: room[:2]}, holding("p/b", 2, 3)}, Old: []string{"x/a"}}
	x := index.New(f)
	more, drop := []index.Pack{holding("p/c", 3, 4), holding("p/d", 5)}, []string{"p/d", "p/e"}
	x.Add(more...)
	x.Drop(drop...)
	if !alikePacks(f.Packs, []index.Pack{holding("p/a", 1, 2), holding("p/b", 2, 3)}) || room[2] != (pack.Entry{Len: 5}) ||
		!alikePacks(more, []index.Pack{holding("p/c", 3, 4), holding("p/d", 5)}) || !slices.Equal(drop, []string{"p/d", "p/e"}) {
		t.Error("what was handed in is changed")
	}
	spoil(f)
	spoil(index.File{Packs: more})
	clear(drop)
	want := []index.Pack{holding("p/a", 1, 2), holding("p/b", 2, 3), holding("p/c", 3, 4)}
	checkTable(t, x, want...)
	spoil(index.File{Packs: x.Packs()})
	clear(x.Ids())
	checkTable(t, x, want...)
	first := x.Packs()
	checkApart(t, x.Packs())
	x.Add(holding("p/a", 9))
	x.Drop("p/b")
	if !alikePacks(first, want) {
		t.Error("an answer is changed by later calls")
	}
}
