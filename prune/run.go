package prune

import (
	"slices"
	"strings"

	"hypogeum/api"
	"hypogeum/index"
	"hypogeum/mark"
	"hypogeum/pack"
	"hypogeum/save"
	"hypogeum/vault"
)

// Run: just what trees need is in the store then.
func Run(s save.Saver, roots ...api.Id) (Plan, api.Errno) {
	need, e := mark.Reach(s, roots...)
	if e != api.OK {
		return Plan{}, e
	}
	packs := s.Packs()
	if len(Missing(need, packs...)) > 0 {
		return Plan{}, api.ErrCorrupt
	}
	plan := Make(need, packs...)
	moved, e := read(s, plan.Move)
	if e != api.OK {
		return Plan{}, e
	}
	if e := replace(s, plan.Stay, moved); e != api.OK {
		return Plan{}, e
	}
	return plan, api.OK
}

// read: the blobs of these places.
func read(s save.Saver, l []index.Place) ([]vault.Lump, api.Errno) {
	var blobs []vault.Lump
	for _, x := range l {
		b, e := s.Get(x.Kind, x.Id)
		if e == api.ErrMiss {
			e = api.ErrCorrupt
		}
		if e != api.OK {
			return nil, e
		}
		blobs = append(blobs, vault.Lump{Kind: x.Kind, Bytes: b})
	}
	return blobs, api.OK
}

// replace: the packs that stay, and new ones of the blobs that are moved, are all that there are.
func replace(s save.Saver, stay []index.Pack, moved []vault.Lump) api.Errno {
	if e := checkIndex(s, stay, moved); e != api.OK {
		return e
	}
	fresh, e := s.Anew(moved...)
	if e != api.OK {
		return e
	}
	return s.Replace(slices.Concat(stay, fresh))
}

// checkIndex: may there be an index of the packs that stay and of new ones?
// Asked ahead of publishing these: Replace would refuse it only when they are there, and nobody needs them then.
func checkIndex(s save.Saver, stay []index.Pack, moved []vault.Lump) api.Errno {
	if len(moved) == 0 {
		return api.OK
	}
	p := s.Pen
	p.Tape = nil // nothing that is sealed here is kept: it uses no nonces up
	l, e := together(pack.New(p), moved)
	if e != api.OK {
		return e
	}
	l = append(l, stay...)
	slices.SortFunc(l, func(a, b index.Pack) int { return strings.Compare(a.Name, b.Name) })
	_, b, e := index.Write(p, index.File{Packs: l, Old: s.Files()})
	if e == api.OK && len(b) > api.MaxPack {
		return api.ErrBig // the store takes no such object
	}
	return e
}

// together: the packs that a writer makes of blobs, as many in each as there may be.
func together(w *pack.Writer, l []vault.Lump) ([]index.Pack, api.Errno) {
	var packs []index.Pack
	for len(l) > 0 {
		n, e := fill(w, l)
		if e != api.OK {
			return nil, e
		}
		l = l[n:]
		name, _, entries, e := w.Close()
		if e != api.OK {
			return nil, e
		}
		packs = append(packs, index.Pack{Name: name, Entries: entries})
	}
	return packs, api.OK
}

// fill: the writer takes as many of these blobs as it can; how many.
func fill(w *pack.Writer, l []vault.Lump) (int, api.Errno) {
	for i, x := range l {
		_, _, e := w.Add(x.Kind, x.Bytes)
		if e == api.ErrFull && i > 0 {
			return i, api.OK
		}
		if e != api.OK {
			return 0, e
		}
	}
	return len(l), api.OK
}
