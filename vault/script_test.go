package vault_test

import (
	"maps"
	"math/rand"
	"slices"
	"testing"

	"hypogeum/api"
	"hypogeum/index"
	"hypogeum/key"
	"hypogeum/pack"
	"hypogeum/vault"
)

// model is a vault by the document's words, in a store that has room and power.
type model struct {
	t       *testing.T
	pen     key.Pen
	target  int
	w       *pack.Writer
	kept    map[api.Id]vault.Lump
	waits   map[api.Id]vault.Lump
	packs   []index.Pack
	loose   []index.Pack
	files   []index.Named
	objects map[string]string
}

func newModel(t *testing.T, begin string, target int) *model {
	p := pen(begin)
	return &model{t: t, pen: p, target: target, w: pack.New(p), kept: map[api.Id]vault.Lump{}, waits: map[api.Id]vault.Lump{}, objects: map[string]string{}}
}

func (m *model) add(x vault.Lump) bool {
	_, _, e := m.w.Add(x.Kind, x.Bytes)
	if e != api.OK && e != api.ErrFull {
		m.t.Fatal("Add", e)
	}
	return e == api.OK
}

func (m *model) put(x vault.Lump) bool {
	if _, ok := m.kept[idOf(x)]; ok {
		return false
	}
	if _, ok := m.waits[idOf(x)]; ok {
		return false
	}
	if !m.add(x) {
		m.flush()
		m.add(x)
	}
	m.waits[idOf(x)] = x
	if m.w.Size() >= m.target {
		m.flush()
	}
	return true
}

func (m *model) flush() {
	name, b, l, e := m.w.Close()
	if e == api.ErrEnd {
		return
	}
	m.objects[name] = string(b)
	p := index.Pack{Name: name, Entries: l}
	m.packs, m.loose = append(m.packs, p), append(m.loose, p)
	maps.Copy(m.kept, m.waits)
	clear(m.waits)
}

// write: an index more; its name.
func (m *model) write(f index.File) index.Named {
	name, b := fileOf(m.t, m.pen, f)
	m.objects[name] = b
	return index.Named{Name: name, File: f}
}

func (m *model) commit() {
	m.flush()
	if len(m.loose) > 0 {
		m.files = append(m.files, m.write(fileWith(byName(m.loose...)...)))
		m.loose = nil
	}
}

func (m *model) anew(l []vault.Lump) []index.Pack {
	w := pack.New(m.pen)
	var packs []index.Pack
	for _, x := range l {
		if _, _, e := w.Add(x.Kind, x.Bytes); e != api.OK {
			m.t.Fatal("Add", e)
		}
	}
	if name, b, entries, e := w.Close(); e == api.OK {
		m.objects[name] = string(b)
		packs = append(packs, index.Pack{Name: name, Entries: entries})
	}
	return packs
}

func (m *model) replace(packs []index.Pack) {
	packs = byName(packs...)
	if len(m.files) != 1 || !alikePacks(m.files[0].Packs, packs) {
		m.files = []index.Named{m.write(index.File{Packs: packs, Old: m.names()})}
	}
	m.packs, m.loose, m.w = packs, nil, pack.New(m.pen)
	clear(m.waits)
	kept := map[api.Id]vault.Lump{}
	objects := map[string]string{m.files[0].Name: m.objects[m.files[0].Name]}
	for _, p := range packs {
		objects[p.Name] = m.objects[p.Name]
		for _, x := range p.Entries {
			b, e := pack.Blob(ring(1), []byte(m.objects[p.Name]), x)
			checkErrno(m.t, "Blob", e, api.OK)
			kept[x.Id] = vault.Lump{Kind: x.Kind, Bytes: b}
		}
	}
	for name, b := range m.objects {
		if place := name[:2]; place != "p/" && place != "x/" && place != "t/" {
			objects[name] = b
		}
	}
	m.objects, m.kept = objects, kept
}

func (m *model) names() []string {
	var l []string
	for _, f := range m.files {
		l = append(l, f.Name)
	}
	slices.Sort(l)
	return l
}

// subset: some packs, in any order.
func subset(chance *rand.Rand, l []index.Pack) []index.Pack {
	l = slices.Clone(l)
	chance.Shuffle(len(l), func(i, j int) { l[i], l[j] = l[j], l[i] })
	if len(l) == 0 {
		return nil
	}
	return l[:chance.Intn(len(l)+1)]
}

// P16.1, P16.3: scripts of all calls: each answer, and all objects byte by byte, are those of the document's words.
func TestScripts(t *testing.T) {
	for seed := range 60 {
		chance := rand.New(rand.NewSource(int64(seed)))
		s := newShelf(t, room)
		target := 1 + chance.Intn(600)
		v, m := open(t, s, "t", target), newModel(t, "t", target)
		for _, name := range []string{"w/a", "k/01", "l/01-0", "config", "s/00000001"} {
			forge(t, s, name, name)
			m.objects[name] = name
		}
		all := lumps(0, 25)
		for i := range 80 {
			x := all[chance.Intn(len(all))]
			switch chance.Intn(12) {
			case 0:
				checkErrno(t, "Flush", v.Flush(), api.OK)
				m.flush()
			case 1:
				checkErrno(t, "Commit", v.Commit(), api.OK)
				m.commit()
			case 2:
				l := []vault.Lump{x, all[0], x, all[chance.Intn(len(all))]}[:chance.Intn(5)]
				got, e := v.Anew(l...)
				if want := m.anew(l); !alikePacks(got, want) || e != api.OK {
					t.Error("Anew", got, e)
				}
			case 3:
				if chance.Intn(3) > 0 {
					continue
				}
				l := m.packs
				if chance.Intn(2) == 0 {
					l = subset(chance, l)
				}
				checkErrno(t, "Replace", v.Replace(l), api.OK)
				m.replace(l)
			case 4: // another one goes on: what wasn't committed is forgotten
				checkErrno(t, "Commit", v.Commit(), api.OK)
				m.commit()
				begin := string(some(chance.Int63(), 8))
				v = open(t, s, begin, target)
				m.pen = pen(begin)
				m.w = pack.New(m.pen)
			default:
				put(t, v, x, m.put(x))
			}
			if i%8 == 7 {
				m.check(v, all)
			} else {
				m.check(v, []vault.Lump{x})
			}
			checkObjects(t, "script", s, m.objects)
		}
	}
}

// check: what the vault tells.
func (m *model) check(v *vault.Vault, all []vault.Lump) {
	m.t.Helper()
	checkFiles(m.t, "script", v, m.names()...)
	if !alikePacks(v.Packs(), byName(m.packs...)) {
		m.t.Error("packs")
	}
	for _, x := range all {
		_, kept := m.kept[idOf(x)]
		if _, waits := m.waits[idOf(x)]; kept || waits {
			checkTold(m.t, "script", v, x)
		} else {
			checkUntold(m.t, "script", v, api.ErrMiss, x)
		}
	}
}
