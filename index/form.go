package index

import (
	"strings"

	"hypogeum/api"
	"hypogeum/glyph"
	"hypogeum/pack"
	"hypogeum/shelf"
	"hypogeum/wax"
)

// How much a file has.
const (
	mostPacks   = 1000
	mostOld     = 1000
	mostEntries = 1000
	mostEnd     = 1 << 20
)

// What blobs are.
const (
	piece = 1
	dir   = 2
)

// inForm: may a file be written?
func inForm(f File) bool {
	if len(f.Packs) > mostPacks || len(f.Old) > mostOld {
		return false
	}
	for i, p := range f.Packs {
		if i > 0 && p.Name <= f.Packs[i-1].Name {
			return false
		}
		if !strings.HasPrefix(p.Name, "p/") || !shelf.IsName(p.Name) || !entriesInForm(p.Entries) {
			return false
		}
	}
	for i, name := range f.Old {
		if i > 0 && name <= f.Old[i-1] || !shelf.IsName(name) {
			return false
		}
	}
	return true
}

// entriesInForm: may a pack have these blobs?
func entriesInForm(l []pack.Entry) bool {
	if len(l) == 0 || len(l) > mostEntries {
		return false
	}
	seen := make(map[api.Id]struct{}, len(l))
	end := 0
	for _, x := range l {
		if x.Kind != piece && x.Kind != dir {
			return false
		}
		// Held against what is left: the sum of both may be no int.
		if x.Off < end || x.Len < wax.Extra || x.Len > mostEnd || x.Off > mostEnd-x.Len {
			return false
		}
		end = x.Off + x.Len
		seen[x.Id] = struct{}{}
	}
	return len(seen) == len(l)
}

// encode: a file that is in form as bytes, as they are sealed.
func encode(f File) ([]byte, api.Errno) {
	o := glyph.Begin(fileKind).Num(len(f.Packs))
	for _, p := range f.Packs {
		o.Text(p.Name).Num(len(p.Entries))
		for _, x := range p.Entries {
			o.Raw(x.Id[:]).Num(x.Kind, x.Off, x.Len)
		}
	}
	return o.Num(len(f.Old)).Text(f.Old...).Bytes()
}

// decode: of bytes; false: encode makes no such bytes. (Whether the file is in form isn't asked here.)
func decode(g []byte) (File, bool) {
	in := glyph.Open(fileKind, g)
	var f File
	for range in.Num(mostPacks) {
		f.Packs = append(f.Packs, decodePack(in))
		// What is read behind a fault are noughts, of which there might be a great many.
		if in.Err() != api.OK {
			return File{}, false
		}
	}
	for range in.Num(mostOld) {
		f.Old = append(f.Old, in.Text(api.MaxKey))
	}
	return f, in.End() == api.OK
}

// decodePack: the next pack.
func decodePack(in *glyph.In) Pack {
	p := Pack{Name: in.Text(api.MaxKey)}
	for range in.Num(mostEntries) {
		var x pack.Entry
		copy(x.Id[:], in.Raw(len(x.Id)))
		x.Kind, x.Off, x.Len = in.Num(dir), in.Num(mostEnd), in.Num(mostEnd)
		p.Entries = append(p.Entries, x)
	}
	return p
}
