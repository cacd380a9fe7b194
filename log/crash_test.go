package log_test

import (
	"fmt"
	"maps"
	"math/rand"
	"slices"
	"testing"

	"hypogeum/api"
	"hypogeum/log"
	"hypogeum/shelf"
)

// goOn: records are added till the power goes; how many were answered.
func goOn(t *testing.T, l *log.Log, records ...log.Record) (int, api.Errno) {
	t.Helper()
	for i, r := range records {
		if _, e := l.Add(r); e != api.OK {
			return i, e
		}
	}
	return len(records), api.OK
}

// P18.2: wherever the power goes, and whatever stays of what wasn't synced: the records are those that were answered, and perhaps one more;
// it is gone on with, by the same log or one that is opened anew.
func TestCrashes(t *testing.T) {
	p, _ := written(t)
	changes := p.store.Steps()
	all := numbered(history()...)
	for n := range changes + 1 {
		for pick, keep := range []int{0, 1, 2, 16, 17, 49, 60, 100, 121, 140, 1 << 20, -1} {
			what := fmt.Sprint(n, pick)
			p := newPlace(t, room)
			l := p.open("t")
			p.store.Arm(n)
			done, e := goOn(t, l, history()...)
			if (e == api.OK) != (n == changes) || e != api.OK && e != api.ErrDown || done != n/4 {
				t.Fatal(what, done, e)
			}
			p.store.Crash(keep)
			checkRecords(t, what, l, all[:done]...)
			p.checkOpened(what, all[:done]...)
			if pick%2 == 0 {
				l = p.open("u")
			}
			checkErrno(t, what, l.Mend(), api.OK)
			p.checkOpened(what, all[:done]...)
			_, e = goOn(t, l, history()[done:]...)
			checkErrno(t, what, e, api.OK)
			p.checkOpened(what, all...)
			p.checkNames(what, slices.Sorted(maps.Keys(chained(t, "t", history()...)))...)
		}
	}
}

// P18.3: a record that didn't count, kept by somebody, is laid in the place of the one that got its number: it is told as soon as a record came behind that.
// (Ahead of that nothing tells one from the other: both have a seal for that name, and the same chain.)
func TestUncountedLaidBack(t *testing.T) {
	for i := range 4 {
		p := newPlace(t, room)
		l := p.open("t")
		var all []log.Record
		layFirst := i < 2
		if i%2 == 1 {
			all = append(all, made(1))
			addAll(t, l, all...)
		}
		p.store.Arm(3)
		checkAdd(t, "Raise", l, made(2), api.ErrDown)
		p.store.Crash()
		kept := name(len(all) + 1)
		uncounted, _ := p.store.Get(kept)
		checkErrno(t, "Mend", l.Mend(), api.OK)
		all = append(all, made(3))
		add(t, l, made(3), len(all))
		if layFirst {
			p.lay(kept, uncounted) // the log itself doesn't go on from it
		}
		add(t, l, made(4), len(all)+1)
		if !layFirst {
			p.checkOpened("as it was", numbered(append(all, made(4))...)...)
			p.lay(kept, uncounted)
		}
		p.checkCorrupt("laid back")
	}
}

// client is a script's log, and what it tells.
type client struct {
	log   *log.Log
	knows []log.Record
}

// script is a place in which several work: its records, and what others may lay there.
type script struct {
	place
	t       *testing.T
	chance  *rand.Rand
	clients []client
	all     []log.Record
	lives   int
	images  []*shelf.Image
	counts  []int // of records, when the images were made
}

// any: a record of any kind.
func (s *script) any() log.Record {
	if s.chance.Intn(2) == 0 {
		return made(s.chance.Intn(50))
	}
	return forgot(s.chance.Intn(len(s.all)+3) - 1)
}

// want: what Add of a record answers, by the document's words, with power.
func (s *script) want(c client, r log.Record) api.Errno {
	left := snaps(c.knows...)
	switch {
	case r.Kind == log.Forgot && !slices.ContainsFunc(left, func(x api.Snap) bool { return x.Seq == r.Seq }):
		return api.ErrMiss
	case len(c.knows) != len(s.all), slices.Contains(s.names("s/"), name(len(s.all)+1)): // others' came, or one lies there that doesn't count
		return api.ErrLocked
	}
	return api.OK
}

// add: by one of the clients; the power may go.
func (s *script) add(i int) {
	c, r := &s.clients[i], s.any()
	want := s.want(*c, r)
	if s.chance.Intn(6) == 0 {
		s.store.Arm(s.chance.Intn(4))
	}
	n, e := c.log.Add(r)
	switch {
	case e == api.OK && want == api.OK:
		s.all = append(s.all, numbered(append(s.all, r)...)[len(s.all)])
		c.knows = slices.Clone(s.all)
		if n != len(s.all) {
			s.t.Error("Add", n)
		}
	case e == api.ErrDown && want == api.OK:
	case e != want || n != 0:
		s.t.Fatal("Add", n, e, want)
	}
	if s.store.Off() {
		s.store.Crash(s.chance.Int(), s.chance.Int(), -s.chance.Int())
	}
	s.store.Arm(1 << 30)
}

// open: a client begins anew, and may mend.
func (s *script) open(i int) {
	s.lives++
	s.clients[i] = client{s.place.open(fmt.Sprint("life ", s.lives)), slices.Clone(s.all)}
}

func (s *script) mend(i int) {
	checkErrno(s.t, "Mend", s.clients[i].log.Mend(), api.OK)
	if got := len(s.names("s/")); got != len(s.all) {
		s.t.Error("Mend leaves", got, "of", len(s.all))
	}
}

// photo: as it is, if no record lies there that doesn't count: see TestUncountedLaidBack.
func (s *script) photo() {
	if len(s.names("s/")) == len(s.all) {
		s.images, s.counts = append(s.images, s.store.Photo()), append(s.counts, len(s.all))
	}
}

// elder: a store of an elder time is laid there for a while.
func (s *script) elder() {
	if len(s.images) == 0 {
		return
	}
	i := s.chance.Intn(len(s.images))
	now := s.store.Photo()
	s.store.Restore(s.images[i])
	if s.counts[i] < len(s.all) {
		s.checkCorrupt("elder")
	} else {
		s.checkOpened("elder", s.all...)
	}
	s.store.Restore(now)
}

// P18.1 to P18.3: scripts of several clients, with crashes and with elder stores: each answer is that of the document's words.
func TestScripts(t *testing.T) {
	for seed := range 150 {
		s := &script{place: newPlace(t, room), t: t, chance: rand.New(rand.NewSource(int64(seed))), clients: make([]client, 1+seed%3)}
		for i := range s.clients {
			s.open(i)
		}
		for range 60 {
			i := s.chance.Intn(len(s.clients))
			switch s.chance.Intn(8) {
			case 0:
				s.open(i)
			case 1:
				s.mend(i)
			case 2:
				s.photo()
				s.elder()
			default:
				s.add(i)
			}
			checkRecords(t, "script", s.clients[i].log, s.clients[i].knows...)
			s.checkOpened("script", s.all...)
		}
	}
}
