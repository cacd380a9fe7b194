package index

import (
	"bytes"
	"maps"
	"slices"
	"strings"

	"hypogeum/api"
	"hypogeum/pack"
)

// Place is where a blob lies.
type Place struct {
	Pack string
	pack.Entry
}

// Table is all places.
type Table struct {
	packs map[string][]pack.Entry
	blobs map[api.Id][]spot // of each blob all its spots, by their packs, rising
}

// spot is where a table has a place: in which pack, as which of its entries.
type spot struct {
	pack string
	at   int
}

// New: of files.
func New(l ...File) *Table {
	t := new(Table)
	for _, f := range l {
		t.Add(f.Packs...)
	}
	return t
}

// Add, Drop: a pack more; packs less.
func (t *Table) Add(l ...Pack) {
	if t == nil {
		return
	}
	if t.packs == nil {
		t.packs, t.blobs = map[string][]pack.Entry{}, map[api.Id][]spot{}
	}
	for _, p := range l {
		t.drop(p.Name)
		t.packs[p.Name] = slices.Clone(p.Entries)
		for at, x := range p.Entries {
			t.lay(x.Id, spot{p.Name, at})
		}
	}
}

func (t *Table) Drop(names ...string) {
	if t == nil {
		return
	}
	for _, name := range names {
		t.drop(name)
	}
}

// Find: where a blob lies.
func (t *Table) Find(id api.Id) (Place, bool) {
	if t == nil || len(t.blobs[id]) == 0 {
		return Place{}, false
	}
	s := t.blobs[id][0]
	return Place{s.pack, t.packs[s.pack][s.at]}, true
}

// Ids, Packs: all blobs; all packs.
func (t *Table) Ids() []api.Id {
	if t == nil {
		return nil
	}
	return slices.SortedFunc(maps.Keys(t.blobs), func(a, b api.Id) int { return bytes.Compare(a[:], b[:]) })
}

func (t *Table) Packs() []Pack {
	if t == nil {
		return nil
	}
	var l []Pack
	for _, name := range slices.Sorted(maps.Keys(t.packs)) {
		l = append(l, Pack{name, t.packs[name]}.clone())
	}
	return l
}

// drop: a pack, if it is there, with all its spots.
func (t *Table) drop(name string) {
	for _, x := range t.packs[name] {
		l := t.blobs[x.Id]
		i, found := search(l, name)
		if !found {
			continue // a pack that has a name twice: its spot is gone already
		}
		if len(l) == 1 {
			delete(t.blobs, x.Id)
		} else {
			t.blobs[x.Id] = slices.Delete(l, i, i+1)
		}
	}
	delete(t.packs, name)
}

// lay: a spot more of a blob; of a pack that has a name twice the first one counts.
func (t *Table) lay(id api.Id, s spot) {
	l := t.blobs[id]
	if i, found := search(l, s.pack); !found {
		t.blobs[id] = slices.Insert(l, i, s)
	}
}

// search: where a pack's spot is among those of a blob, or would be.
func search(l []spot, name string) (int, bool) {
	return slices.BinarySearchFunc(l, name, func(s spot, name string) int { return strings.Compare(s.pack, name) })
}
