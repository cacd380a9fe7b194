package vault_test

import (
	"fmt"
	"math/rand"
	"slices"
	"testing"

	"hypogeum/api"
	"hypogeum/index"
	"hypogeum/pack"
	"hypogeum/shelf"
	"hypogeum/vault"
)

// checkWhole: what begins with p/ or x/ is a pack or an index, of its name.
func checkWhole(t *testing.T, what string, s *shelf.Shelf) {
	t.Helper()
	for name, b := range objects(t, s) {
		switch name[:2] {
		case "p/":
			if _, e := pack.Entries(ring(1), []byte(b)); e != api.OK || name != "p/"+digits([]byte(b)) {
				t.Errorf("%s: %s is no pack: %d", what, name, e)
			}
		case "x/":
			readFile(t, s, name)
		}
	}
}

// rounds: blobs by rounds, each of which is committed; some come in more than one.
func rounds() [][]vault.Lump {
	all := lumps(0, 14)
	return [][]vault.Lump{all[:5], all[3:9], all[:2], all[6:]}
}

// goOn: each round is put and committed; the blobs of all rounds that were answered, and the error that broke it off.
func goOn(t *testing.T, v *vault.Vault) ([]vault.Lump, api.Errno) {
	t.Helper()
	var done []vault.Lump
	for _, l := range rounds() {
		for _, x := range l {
			if _, _, e := v.Put(x.Kind, x.Bytes); e != api.OK {
				return done, e
			}
		}
		if e := v.Commit(); e != api.OK {
			return done, e
		}
		done = append(done, l...)
	}
	return done, api.OK
}

// P16.2: wherever the power goes, and whatever stays of what wasn't synced: what was committed is told, by a vault that is opened behind that;
// it goes on then, by the same tape or another one, and comes to its end.
func TestCrashes(t *testing.T) {
	for _, target := range []int{1, 150, 800000} {
		s := newShelf(t, room)
		_, e := goOn(t, open(t, s, "t", target))
		checkErrno(t, "goOn", e, api.OK)
		changes := s.Steps()
		for n := range changes + 1 {
			for _, pick := range []int{0, 1, 5, 60, 1 << 20, -1} {
				what := fmt.Sprint(target, n, pick)
				s := newShelf(t, room)
				v := open(t, s, "t", target)
				s.Arm(n)
				done, e := goOn(t, v)
				if (e == api.OK) != (n == changes) || e != api.OK && e != api.ErrDown {
					t.Fatal(what, e)
				}
				s.Crash(pick)
				checkWhole(t, what, s)
				checkTold(t, what+", the same", v, done...)
				v = open(t, s, []string{"t", "u"}[n%2], target)
				checkTold(t, what, v, done...)
				done, e = goOn(t, v)
				checkErrno(t, what+", anew", e, api.OK)
				checkTold(t, what+", anew", open(t, s, "w", target), done...)
				checkWhole(t, what+", anew", s)
			}
		}
	}
}

// P16.2: several crashes, one behind the other, in scripts.
func TestManyCrashes(t *testing.T) {
	for seed := range 40 {
		chance := rand.New(rand.NewSource(int64(seed)))
		s := newShelf(t, room)
		all := lumps(0, 30)
		target := 1 + chance.Intn(500)
		v := open(t, s, "0", target)
		committed, waits := map[int]bool{}, map[int]bool{}
		s.Arm(chance.Intn(12))
		for life := 1; life < 12; {
			i := chance.Intn(len(all))
			_, _, e := v.Put(all[i].Kind, all[i].Bytes)
			if e == api.OK {
				waits[i] = true
				if chance.Intn(4) > 0 {
					continue
				}
				e = v.Commit()
			}
			if e == api.OK {
				for i := range waits {
					committed[i] = true
				}
				continue
			}
			checkErrno(t, "script", e, api.ErrDown)
			s.Crash(chance.Int(), chance.Int())
			checkWhole(t, "script", s)
			v = open(t, s, string(rune('0'+life)), target)
			for i := range committed {
				checkTold(t, "script", v, all[i])
			}
			clear(waits)
			s.Arm(chance.Intn(12))
			life++
		}
	}
}

// P16.3: a blob that is there is never put again: not by this vault, nor by others that are opened behind a Commit.
func TestNeverAgain(t *testing.T) {
	s := newShelf(t, room)
	for i := range 4 {
		v := open(t, s, fmt.Sprint(i), 200)
		for range 2 {
			_, e := goOn(t, v)
			checkErrno(t, "goOn", e, api.OK)
		}
		seen := map[api.Id]int{}
		for _, p := range open(t, s, "w", 1).Packs() {
			for _, x := range p.Entries {
				seen[x.Id]++
			}
		}
		for _, x := range lumps(0, 14) {
			if seen[idOf(x)] != 1 {
				t.Error(seen[idOf(x)], "times")
			}
		}
		if i == 0 {
			continue
		}
		if got := s.Steps(); got != stepsOf(t) {
			t.Error(got, "changes")
		}
	}
}

// stepsOf: how many changes all rounds take in a new store.
func stepsOf(t *testing.T) int {
	s := newShelf(t, room)
	_, e := goOn(t, open(t, s, "0", 200))
	checkErrno(t, "goOn", e, api.OK)
	return s.Steps()
}

// P16.3: what the table has isn't put again, though its pack is gone or changed.
func TestStolenIsThere(t *testing.T) {
	s := newShelf(t, room)
	v := open(t, s, "t", 1)
	x := lump(1, "a")
	commit(t, v, x)
	s.Steal(names(t, s, "p/")[0])
	for _, v := range []*vault.Vault{v, open(t, s, "u", 1)} {
		put(t, v, x, false)
		checkUntold(t, "stolen", v, api.ErrCorrupt, x)
	}
	v.Drop(v.Packs()[0].Name) // by its table's call: then it isn't there
	put(t, v, x, true)
	checkTold(t, "dropped", v, x)
}

// damage: what somebody else does to an object.
type damage struct {
	what string
	do   func(s *shelf.Shelf, name string, b []byte)
}

func damages() []damage {
	forged := func(s *shelf.Shelf, name string, b []byte) { s.Forge(name, b) }
	l := []damage{
		{"stolen", func(s *shelf.Shelf, name string, b []byte) { s.Steal(name) }},
		{"empty", func(s *shelf.Shelf, name string, b []byte) { forged(s, name, nil) }},
		{"cut", func(s *shelf.Shelf, name string, b []byte) { forged(s, name, b[:len(b)-1]) }},
		{"cut ahead", func(s *shelf.Shelf, name string, b []byte) { forged(s, name, b[1:]) }},
		{"longer", func(s *shelf.Shelf, name string, b []byte) { forged(s, name, append(b, 0)) }},
		{"noughts", func(s *shelf.Shelf, name string, b []byte) { forged(s, name, make([]byte, len(b))) }},
	}
	for _, at := range []int{0, 15, 16, 17, 48, 60, 100} {
		l = append(l, damage{"changed", func(s *shelf.Shelf, name string, b []byte) {
			b[min(at, len(b)-1)] ^= 1
			forged(s, name, b)
		}}, damage{"changed from the end", func(s *shelf.Shelf, name string, b []byte) {
			b[max(len(b)-1-at, 0)] ^= 128
			forged(s, name, b)
		}})
	}
	return l
}

// P16.4: a pack that isn't there, or not as it was, anywhere in it: none of its blobs is told, all others are.
func TestDamagedPacks(t *testing.T) {
	for _, d := range damages() {
		s := newShelf(t, room)
		v := open(t, s, "t", 150)
		_, e := goOn(t, v)
		checkErrno(t, "goOn", e, api.OK)
		whole := s.Photo()
		for _, p := range v.Packs() {
			b, _ := s.Get(p.Name)
			d.do(s, p.Name, b)
			for _, v := range []*vault.Vault{v, open(t, s, "u", 1)} {
				for _, x := range lumps(0, 14) {
					if slices.ContainsFunc(p.Entries, func(y pack.Entry) bool { return y.Id == idOf(x) }) {
						checkUntold(t, d.what, v, api.ErrCorrupt, x)
					} else {
						checkTold(t, d.what, v, x)
					}
				}
			}
			s.Restore(whole)
		}
	}
}

// P16.4: each byte of a pack counts.
func TestEachByteOfAPack(t *testing.T) {
	s := newShelf(t, room)
	v := open(t, s, "t", 800000)
	l := lumps(0, 3)
	commit(t, v, l...)
	name := v.Packs()[0].Name
	b, _ := s.Get(name)
	for i := range b {
		b[i] ^= 1 << (i % 8)
		forge(t, s, name, string(b))
		b[i] ^= 1 << (i % 8)
		checkUntold(t, fmt.Sprint(i), v, api.ErrCorrupt, l...)
	}
	forge(t, s, name, string(b))
	checkTold(t, "as it was", v, l...)
}

// P16.4: objects in one another's place; others' objects; the store of an elder time.
func TestObjectsInOthersPlaces(t *testing.T) {
	s := newShelf(t, room)
	v := open(t, s, "t", 150)
	_, e := goOn(t, v)
	checkErrno(t, "goOn", e, api.OK)
	other := newShelf(t, room)
	w, e := vault.Open(other, penOf(2), 150)
	checkErrno(t, "Open", e, api.OK)
	_, e = goOn(t, w)
	checkErrno(t, "goOn", e, api.OK)
	whole, all := s.Photo(), objects(t, s)
	for _, b := range objects(t, other) {
		all[b] = b
	}
	for name := range objects(t, s) {
		for from, b := range all {
			if from == name {
				continue
			}
			forge(t, s, name, b)
			checkRight(t, name+" from "+from, s, v)
			s.Restore(whole)
		}
	}
	for _, name := range names(t, s, "") { // as if it had never been there
		s.Steal(name)
		checkRight(t, name, s, v)
	}
}

// checkRight: a vault that was opened ahead of what others did, and one that is opened behind that, tell each blob, or that it isn't to be told.
func checkRight(t *testing.T, what string, s *shelf.Shelf, v *vault.Vault) {
	t.Helper()
	vaults := []*vault.Vault{v}
	if w, e := vault.Open(s, pen("u"), 1); e == api.OK {
		vaults = append(vaults, w)
	} else {
		checkErrno(t, what, e, api.ErrCorrupt)
	}
	for _, v := range vaults {
		for _, x := range lumps(0, 14) {
			b, e := v.Get(x.Kind, idOf(x))
			if e != api.OK && (e != api.ErrCorrupt && e != api.ErrMiss || b != nil) || e == api.OK && !slices.Equal(b, x.Bytes) {
				t.Errorf("%s: Get: %d bytes, %d", what, len(b), e)
			}
		}
	}
}

// P16.4: an index that tells where nothing of that name is sealed, or beyond a pack's end.
func TestIndexThatIsWrong(t *testing.T) {
	s := newShelf(t, room)
	a, b := lump(1, "a"), lump(1, "bb")
	p, pb := packOf(t, pen("t"), a, b)
	forge(t, s, p.Name, pb)
	for i, x := range []pack.Entry{
		{Id: idOf(a), Kind: 1, Off: 49, Len: 50}, {Id: idOf(a), Kind: 1, Off: 1, Len: 49}, {Id: idOf(a), Kind: 1, Off: 0, Len: 50}, {Id: idOf(a), Kind: 1, Off: 1000, Len: 49},
		{Id: idOf(a), Kind: 1, Off: 1<<20 - 49, Len: 49}, {Id: idOf(a), Kind: 2, Off: 0, Len: 49},
	} {
		q := open(t, s, "u", 1)
		q.Add(index.Pack{Name: p.Name, Entries: []pack.Entry{x}})
		got, e := q.Get(x.Kind, idOf(a))
		if got != nil || e != api.ErrCorrupt {
			t.Error(i, got, e)
		}
	}
	q := open(t, s, "u", 1)
	q.Add(p)
	checkTold(t, "right", q, a, b)
}
