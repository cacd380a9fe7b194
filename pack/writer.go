package pack

import (
	"slices"

	"hypogeum/api"
	"hypogeum/key"
	"hypogeum/sum"
	"hypogeum/wax"
)

// Writer takes blobs.
type Writer struct {
	key.Pen
	sealed []byte
	blobs  []Entry
	taken  map[api.Id]struct{} // the names of blobs
}

// New: no blobs yet.
func New(p key.Pen) *Writer {
	return &Writer{Pen: p}
}

// Add: a blob: its name; false: it has one of that name.
func (w *Writer) Add(kind int, parts ...[]byte) (api.Id, bool, api.Errno) {
	if w == nil || !isKind(kind) {
		return api.Id{}, false, api.ErrArg
	}
	size, ok := sizeOf(parts)
	if !ok {
		return api.Id{}, false, api.ErrBig
	}
	id := w.Id(byte(kind), parts...)
	if _, there := w.taken[id]; there {
		return id, false, api.OK
	}
	// Asked ahead of sealing: what is refused uses no nonce up.
	if w.Count() == mostBlobs || w.Size()+size+wax.Extra > mostSize {
		return api.Id{}, false, api.ErrFull
	}
	b, e := w.Write(byte(kind), sum.Text(id), parts...)
	if e != api.OK {
		return api.Id{}, false, e
	}
	w.take(Entry{Id: id, Kind: kind, Off: w.Size(), Len: len(b)}, b)
	return id, true, api.OK
}

// Count, Size: how many blobs there are; how many bytes they have, sealed.
func (w *Writer) Count() int {
	if w == nil {
		return 0
	}
	return len(w.blobs)
}

func (w *Writer) Size() int {
	if w == nil {
		return 0
	}
	return len(w.sealed)
}

// Close: all of it, and its name; then there are no blobs again.
func (w *Writer) Close() (string, []byte, []Entry, api.Errno) {
	if w == nil {
		return "", nil, nil, api.ErrArg
	}
	if w.Count() == 0 {
		return "", nil, nil, api.ErrEnd
	}
	h, e := writeHead(w.blobs)
	if e != api.OK {
		return "", nil, nil, e
	}
	head, e := w.Write(headKind, headName, h)
	if e != api.OK {
		return "", nil, nil, e
	}
	b, l := slices.Concat(w.sealed, head, tellCount(len(head))), w.blobs
	w.sealed, w.blobs, w.taken = nil, nil, nil
	return Name(b), b, l, api.OK
}

// take: a blob with its sealed bytes, behind all others.
func (w *Writer) take(x Entry, b []byte) {
	if w.taken == nil {
		w.taken = map[api.Id]struct{}{}
	}
	w.taken[x.Id] = struct{}{}
	w.blobs = append(w.blobs, x)
	w.sealed = append(w.sealed, b...)
}

// sizeOf: how many bytes a blob of these parts has; false: more than any has.
func sizeOf(parts [][]byte) (int, bool) {
	n := 0
	for _, b := range parts {
		if len(b) > api.MaxBlob-n {
			return 0, false
		}
		n += len(b)
	}
	return n, true
}
