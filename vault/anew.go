package vault

import (
	"hypogeum/api"
	"hypogeum/index"
	"hypogeum/pack"
)

// closed is a pack that was put together, and its bytes.
type closed struct {
	index.Pack
	bytes []byte
}

// Anew: blobs in packs of their own, whether they are there already or not.
func (v *Vault) Anew(l ...Lump) ([]index.Pack, api.Errno) {
	if v == nil {
		return nil, api.ErrArg
	}
	// All are put together ahead of publishing one, and taken back if one can't be: what is refused has changed nothing.
	made, e := v.putTogether(l)
	if e != api.OK {
		return nil, e
	}
	var packs []index.Pack
	var fresh []string
	for _, p := range made {
		isFresh, e := publish(v.store, p.Name, p.bytes)
		if e != api.OK {
			v.takeBack(fresh)
			return nil, e
		}
		if isFresh {
			fresh = append(fresh, p.Name)
		}
		packs = append(packs, p.Pack)
	}
	return packs, api.OK
}

// putTogether: packs of these blobs, as many in each as there may be.
func (v *Vault) putTogether(l []Lump) ([]closed, api.Errno) {
	w := pack.New(v.Pen)
	var made []closed
	for _, x := range l {
		_, _, e := w.Add(x.Kind, x.Bytes)
		if e == api.ErrFull {
			if made, e = addClosed(made, w); e == api.OK {
				_, _, e = w.Add(x.Kind, x.Bytes)
			}
		}
		if e != api.OK {
			return nil, e
		}
	}
	if w.Count() == 0 {
		return made, api.OK
	}
	return addClosed(made, w)
}

// addClosed: packs, and the one that the writer has.
func addClosed(made []closed, w *pack.Writer) ([]closed, api.Errno) {
	name, b, l, e := w.Close()
	if e != api.OK {
		return nil, e
	}
	return append(made, closed{index.Pack{Name: name, Entries: l}, b}), api.OK
}

// takeBack: objects that were published go, if that can be.
func (v *Vault) takeBack(names []string) {
	for _, name := range names {
		v.store.Delete(name)
	}
}
