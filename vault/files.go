package vault

import (
	"slices"
	"strings"

	"hypogeum/api"
	"hypogeum/index"
	"hypogeum/key"
	"hypogeum/shelf"
)

// readFiles: those of a store's indexes that count.
func readFiles(s *shelf.Shelf, r key.Ring) ([]index.Named, api.Errno) {
	names, e := s.List(indexPlace)
	if e != api.OK {
		return nil, e
	}
	var l []index.Named
	for _, name := range names {
		b, e := s.Get(name)
		if e != api.OK {
			return nil, e
		}
		f, e := index.Read(r, b)
		if e != api.OK || name != indexPlace+digits(b) {
			return nil, api.ErrCorrupt
		}
		l = append(l, index.Named{Name: name, File: f})
	}
	return index.Live(l...), api.OK
}

// Files: the names of the indexes that count.
func (v *Vault) Files() []string {
	if v == nil {
		return nil
	}
	var names []string
	for _, f := range v.files {
		names = append(names, f.Name)
	}
	return names
}

// publishFile: an index in the store.
func (v *Vault) publishFile(f index.File) (index.Named, api.Errno) {
	name, b, e := index.Write(v.Pen, f)
	if e != api.OK {
		return index.Named{}, e
	}
	if _, e := publish(v.store, name, b); e != api.OK {
		return index.Named{}, e
	}
	return index.Named{Name: name, File: f}, api.OK
}

// addFile: one more counts, if it isn't among them.
func (v *Vault) addFile(n index.Named) {
	i, found := slices.BinarySearchFunc(v.files, n.Name, func(f index.Named, name string) int { return strings.Compare(f.Name, name) })
	if !found {
		v.files = slices.Insert(v.files, i, n)
	}
}

// Replace: the packs that there are now; all else in the store that looks like a pack, an index or a draft goes.
func (v *Vault) Replace(packs []index.Pack) api.Errno {
	if v == nil {
		return api.ErrArg
	}
	f := index.File{Packs: byName(packs), Old: v.Files()}
	if !v.hasJust(f.Packs) {
		n, e := v.publishFile(f)
		if e != api.OK {
			return e
		}
		v.files = []index.Named{n}
	}
	v.Table, v.loose = index.New(f), index.New()
	v.giveUp()
	keep := map[string]struct{}{v.files[0].Name: {}}
	for _, p := range packs {
		keep[p.Name] = struct{}{}
	}
	// Indexes ahead of packs: one that is left by a crash, and counts again, has its packs still.
	return sweep(v.store, keep, indexPlace, packPlace, draftPlace)
}

// byName: packs by their names, rising, in memory of their own.
func byName(packs []index.Pack) []index.Pack {
	l := slices.Clone(packs)
	for i := range l {
		l[i].Entries = slices.Clone(l[i].Entries)
	}
	slices.SortStableFunc(l, func(a, b index.Pack) int { return strings.Compare(a.Name, b.Name) })
	return l
}

// hasJust: is there one file, which has these packs, and no others?
func (v *Vault) hasJust(packs []index.Pack) bool {
	return len(v.files) == 1 && slices.EqualFunc(v.files[0].Packs, packs, func(a, b index.Pack) bool {
		return a.Name == b.Name && slices.Equal(a.Entries, b.Entries)
	})
}
