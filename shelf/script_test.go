package shelf_test

import (
	"maps"
	"math/rand"
	"reflect"
	"slices"
	"strings"
	"testing"

	"hypogeum/api"
	"hypogeum/shelf"
)

// thing is an object of a model.
type thing struct {
	bytes  string
	synced bool
}

// model is a store by the document's words, with few objects.
type model struct {
	room   int
	things map[string]thing
	steps  int
	off    bool
	arms   []int // none: it isn't armed
}

func (m *model) used() int {
	n := 0
	for _, x := range m.things {
		n += len(x.bytes)
	}
	return n
}

func (m *model) names() []string {
	return slices.Sorted(maps.Keys(m.things))
}

// change: what a change answers that answers e if there is power, and what it does then.
func (m *model) change(e api.Errno, counts bool, do func()) api.Errno {
	switch {
	case m.off:
		return api.ErrDown
	case !counts:
		return e
	case len(m.arms) > 0 && m.arms[0] == 0:
		m.off = true
		return api.ErrDown
	case len(m.arms) > 0:
		m.arms[0]--
	}
	m.steps++
	do()
	return e
}

func (m *model) put(name, b string) api.Errno {
	_, there := m.things[name]
	e := api.OK
	switch {
	case !shelf.IsName(name):
		e = api.ErrName
	case there:
		e = api.ErrThere
	case m.used()+len(b) > m.room:
		e = api.ErrFull
	}
	return m.change(e, e == api.OK, func() { m.things[name] = thing{bytes: b} })
}

func (m *model) sync(names ...string) api.Errno {
	miss := slices.IndexFunc(names, func(s string) bool { _, ok := m.things[s]; return !ok })
	e := api.ErrMiss
	if miss < 0 {
		e, miss = api.OK, len(names)
	}
	return m.change(e, true, func() {
		for _, name := range names[:miss] {
			m.things[name] = thing{m.things[name].bytes, true}
		}
	})
}

func (m *model) rename(from, to string) api.Errno {
	x, ok := m.things[from]
	_, there := m.things[to]
	e := api.OK
	switch {
	case !shelf.IsName(to):
		e = api.ErrName
	case !ok:
		e = api.ErrMiss
	case there && from != to:
		e = api.ErrThere
	}
	return m.change(e, e == api.OK, func() {
		delete(m.things, from)
		m.things[to] = x
	})
}

func (m *model) remove(name string) api.Errno {
	if _, ok := m.things[name]; !ok {
		return m.change(api.ErrMiss, false, nil)
	}
	return m.change(api.OK, true, func() { delete(m.things, name) })
}

func (m *model) crash(picks ...int) {
	for _, name := range m.names() {
		x := m.things[name]
		if x.synced {
			continue
		}
		picks = append(picks, 0)
		stays := int(uint64(picks[0])%uint64(len(x.bytes)+2)) - 1
		picks = picks[1:len(picks):len(picks)]
		if delete(m.things, name); stays >= 0 {
			m.things[name] = thing{x.bytes[:stays], true}
		}
	}
	m.off, m.arms = false, nil
}

func (m *model) forge(name, b string) api.Errno {
	if !shelf.IsName(name) {
		return api.ErrName
	}
	m.things[name] = thing{b, true}
	return api.OK
}

func (m *model) steal(name string) api.Errno {
	if _, ok := m.things[name]; !ok {
		return api.ErrMiss
	}
	delete(m.things, name)
	return api.OK
}

// look: as that of a store.
func (m *model) look() state {
	x := state{objects: map[string]string{}, used: m.used(), steps: m.steps, off: m.off}
	for _, name := range m.names() {
		x.objects[name] = m.things[name].bytes
		if m.things[name].synced {
			x.synced = append(x.synced, name)
		}
	}
	return x
}

// script is a store and its model, to which the same happens.
type script struct {
	*rand.Rand
	s      *shelf.Shelf
	m      *model
	images []*shelf.Image
	things []map[string]thing
}

func (x *script) name() string {
	return []string{"a", "b", "a/b", "a-", "c", "0", "NONE"}[x.Intn(7)]
}

// step: one call: what both answer.
func (x *script) step() (string, api.Errno, api.Errno) {
	name, other, b := x.name(), x.name(), strings.Repeat("bytes", 3)[:x.Intn(12)]
	picks := []int{x.Int() - x.Int(), x.Int() - x.Int(), x.Intn(20) - 10}[:x.Intn(4)]
	switch x.Intn(14) {
	case 0, 1, 2:
		at := x.Intn(len(b) + 1)
		return "Put", x.s.Put(name, []byte(b[:at]), []byte(b[at:])), x.m.put(name, b)
	case 3, 4:
		l := []string{name, other, x.name()}[:x.Intn(4)]
		return "Sync", x.s.Sync(l...), x.m.sync(l...)
	case 5, 6:
		return "Rename", x.s.Rename(name, other), x.m.rename(name, other)
	case 7:
		return "Delete", x.s.Delete(name), x.m.remove(name)
	case 8:
		return "Nudge", x.s.Nudge(), x.m.change(api.OK, true, func() {})
	case 9:
		n := x.Intn(12) - 2
		x.s.Arm(n)
		x.m.arms = []int{max(n, 0)}
		return "Arm", api.OK, api.OK
	case 10:
		x.s.Crash(picks...)
		x.m.crash(picks...)
		return "Crash", api.OK, api.OK
	case 11:
		return "Forge", x.s.Forge(name, []byte(b)), x.m.forge(name, b)
	case 12:
		return "Steal", x.s.Steal(name), x.m.steal(name)
	}
	if len(x.images) < 5 || x.Intn(2) == 0 {
		x.images = append(x.images, x.s.Photo())
		x.things = append(x.things, maps.Clone(x.m.things))
		return "Photo", api.OK, api.OK
	}
	i := x.Intn(len(x.images))
	x.m.things = maps.Clone(x.things[i])
	return "Restore", x.s.Restore(x.images[i]), api.OK
}

// readsAs: Get and List tell what the model has.
func (x *script) readsAs() bool {
	names, down := x.m.names(), api.OK
	if x.m.off {
		names, down = nil, api.ErrDown
	}
	l, e := x.s.List("a")
	ok := e == down && slices.Equal(l, slices.DeleteFunc(names, func(s string) bool { return !strings.HasPrefix(s, "a") }))
	name := x.name()
	b, e := x.s.Get(name)
	if o, there := x.m.things[name]; there && !x.m.off {
		return ok && e == api.OK && string(b) == o.bytes
	}
	return ok && len(b) == 0 && (e == api.ErrMiss && !x.m.off || e == api.ErrDown && x.m.off)
}

// P8.1, P8.3: in scripts of all calls all answer what the document says, and the store is then as it says.
func TestScripts(t *testing.T) {
	seen := map[string]int{}
	for seed := range int64(200) {
		chance := rand.New(rand.NewSource(seed))
		room := chance.Intn(30)
		x := &script{Rand: chance, s: made(t, room), m: &model{room: room, things: map[string]thing{}}}
		for i := range 200 {
			what, got, want := x.step()
			if got != want {
				t.Fatal("script", seed, "step", i, what, got, "not", want)
			}
			if now, is := look(t, x.s), x.m.look(); !reflect.DeepEqual(now, is) {
				t.Fatal("script", seed, "step", i, what, now, "not", is)
			}
			if !x.readsAs() {
				t.Fatal("script", seed, "step", i, what, "reads otherwise")
			}
			seen[what+" "+string(rune('0'+int(got)))]++
		}
	}
	if len(seen) < 22 {
		t.Error("these scripts say little:", seen)
	}
}

// P8.2: what is synced, and isn't deleted, is there behind every crash, with all its bytes.
func TestSyncedStays(t *testing.T) {
	for seed := range int64(100) {
		chance := rand.New(rand.NewSource(seed))
		s := made(t, 10000)
		kept := map[string]string{}
		for i := range 60 {
			name := string(rune('a' + chance.Intn(8)))
			b := strings.Repeat("bytes", 20)[:chance.Intn(100)]
			switch chance.Intn(6) {
			case 0, 1:
				s.Put(name, []byte(b))
			case 2:
				if s.Sync(name) == api.OK {
					got, _ := s.Get(name)
					kept[name] = string(got)
				}
			case 3:
				to := string(rune('a' + chance.Intn(8)))
				was, ok := kept[name]
				if s.Rename(name, to) == api.OK && ok {
					delete(kept, name)
					kept[to] = was
				}
			case 4:
				if chance.Intn(4) == 0 && s.Delete(name) == api.OK {
					delete(kept, name)
				}
			case 5:
				s.Arm(chance.Intn(4))
			}
			if i%10 < 9 {
				continue
			}
			s.Crash(chance.Int(), chance.Intn(9), chance.Int(), -chance.Int())
			for name, b := range kept {
				checkGet(t, s, name, b)
			}
			names, _ := s.List("")
			for _, name := range names { // what stayed is synced by the crash
				got, _ := s.Get(name)
				kept[name] = string(got)
			}
		}
	}
}
