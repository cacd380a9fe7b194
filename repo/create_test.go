package repo_test

import (
	"encoding/binary"
	"fmt"
	"math"
	"slices"
	"strings"
	"testing"

	"hypogeum/api"
	"hypogeum/cell"
	"hypogeum/key"
	"hypogeum/repo"
	"hypogeum/shelf"
)

// P21.1: the document's example.
func TestExample(t *testing.T) {
	p := newPlace(t, room)
	r := p.create()
	backup(t, r, nil, 1)
	checkList(t, "example", r, 1)
	do(t, r, repo.Work{What: repo.Forget, Seq: 1})
	checkNot(t, "example", r, repo.Work{What: repo.Restore, Seq: 1}, api.ErrMiss)
	c := config()
	c.Word = "another word"
	checkNoOpen(t, "example", p.site("o"), c, api.ErrCorrupt)
}

func checkNoOpen(t *testing.T, what string, s repo.Site, c repo.Config, want api.Errno) {
	t.Helper()
	if r, e := repo.Open(s, c); r != nil || e != want {
		t.Errorf("%s: Open: %d, not %d", what, e, want)
	}
}

func checkNoCreate(t *testing.T, what string, s repo.Site, c repo.Config, want api.Errno) {
	t.Helper()
	if r, e := repo.Create(s, c); r != nil || e != want {
		t.Errorf("%s: Create: %d, not %d", what, e, want)
	}
}

// configOf: the object, by the document's words.
func configOf(t *testing.T, begin string, steps int, c repo.Config) string {
	t.Helper()
	tape := tapeOf(begin, 0, steps, 32)
	r, e := key.Make([]byte(c.Word), tape[:16], c.Steps)
	checkErrno(t, "Make", e, api.OK)
	proof, e := r.Seal(0x70, "proof", [16]byte(tape[16:]), r.Name[:])
	checkErrno(t, "Seal", e, api.OK)
	b := append([]byte{0x48, 0x59, 0x63}, tape[:16]...)
	b = binary.AppendUvarint(b, uint64(c.Steps))
	return string(append(append(b, byte(len(proof))), proof...))
}

// The object that Create publishes, to its last byte: of each beginning, word, count of steps, and of a store's changes ahead.
func TestCreate(t *testing.T) {
	for i, begin := range []string{"", "b", strings.Repeat("long ", 40)} {
		for _, steps := range []int{0, 1, 300} {
			p := newPlace(t, room)
			for range i {
				p.store.Nudge()
			}
			c := config()
			c.Steps, c.Word = steps, strings.Repeat("w", 1+999*i/2)
			r, e := repo.Create(p.site(begin), c)
			if r == nil || e != api.OK {
				t.Fatal(i, steps, e)
			}
			p.checkObjects("Create", map[string]string{"config": configOf(t, begin, i, c)})
			if has, alone := r.Held(); has || alone {
				t.Error("it has a lock")
			}
			checkList(t, "Create", r)
		}
	}
}

// wrongConfigs: those that aren't in form, but for their Steps.
func wrongConfigs() map[string]repo.Config {
	m := map[string]repo.Config{}
	add := func(what string, change func(*repo.Config)) {
		c := config()
		change(&c)
		m[what] = c
	}
	add("no word", func(c *repo.Config) { c.Word = "" })
	add("long word", func(c *repo.Config) { c.Word = strings.Repeat("w", 1001) })
	for _, n := range []int{-1, 100, math.MinInt, math.MaxInt} {
		add(fmt.Sprint("client ", n), func(c *repo.Config) { c.Client = n })
	}
	for _, n := range []int{-1, 0, 800001, math.MinInt, math.MaxInt} {
		add(fmt.Sprint("target ", n), func(c *repo.Config) { c.Target = n })
	}
	add("least", func(c *repo.Config) { c.Rule.Least = 63 })
	add("most", func(c *repo.Config) { c.Rule.Most = 65537 })
	add("most below least", func(c *repo.Config) { c.Rule.Least = 201 })
	add("bits", func(c *repo.Config) { c.Rule.Bits = 0 })
	add("more bits", func(c *repo.Config) { c.Rule.Bits = 21 })
	add("poly", func(c *repo.Config) { c.Rule.Poly = 1<<24 - 1 })
	return m
}

// rightConfigs: the edges of what is in form.
func rightConfigs() []repo.Config {
	var l []repo.Config
	for i, word := range []string{"w", strings.Repeat("w", 1000)} {
		c := config()
		c.Word, c.Client, c.Target = word, 99*i, 1+799999*i
		c.Rule.Least, c.Rule.Most, c.Rule.Bits, c.Rule.Poly = 64, 64+65472*i, 1+19*i, 1<<24<<(39*i)
		l = append(l, c)
	}
	return l
}

// Configs that aren't in form: ErrArg of both calls, ahead of all else; the edges of those that are.
func TestConfigForm(t *testing.T) {
	for what, c := range wrongConfigs() {
		p := newPlace(t, room)
		checkNoCreate(t, what, p.site("c"), c, api.ErrArg)
		checkNoOpen(t, what, p.site("c"), c, api.ErrArg)
		p.create()
		p.store.Arm(0)
		p.store.Nudge()
		checkNoCreate(t, what+", off", p.site("c"), c, api.ErrArg)
		checkNoOpen(t, what+", off", p.site("c"), c, api.ErrArg)
	}
	for i, c := range rightConfigs() {
		p := newPlace(t, room)
		r, e := repo.Create(p.site("c"), c)
		checkErrno(t, fmt.Sprint(i), e, api.OK)
		backup(t, r, trees()[0], 1)
		r, e = repo.Open(p.site("o"), c)
		checkErrno(t, fmt.Sprint(i), e, api.OK)
		checkRestore(t, "edges", r, 1, trees()[0])
	}
}

// Of Steps: 0 to 100000 of Create; any of Open.
func TestConfigSteps(t *testing.T) {
	c := config()
	for _, n := range []int{-1, 100001, math.MinInt, math.MaxInt} {
		p := newPlace(t, room)
		c.Steps = n
		checkNoCreate(t, "steps", p.site("c"), c, api.ErrArg)
		p.create()
		checkNoCreate(t, "steps, there", p.site("c"), c, api.ErrArg)
		if r, e := repo.Open(p.site("o"), c); r == nil || e != api.OK {
			t.Error("Open", n, e)
		}
		p.store.Arm(0)
		p.store.Nudge()
		checkNoCreate(t, "steps, off", p.site("c"), c, api.ErrArg)
	}
	p := newPlace(t, room)
	c.Steps = 100000
	_, e := repo.Create(p.site("c"), c)
	checkErrno(t, "most steps", e, api.OK)
	c.Steps = 5
	_, e = repo.Open(p.site("o"), c)
	checkErrno(t, "other steps", e, api.OK)
}

// Sites that lack something: ErrArg.
func TestSites(t *testing.T) {
	p := newPlace(t, room)
	p.create()
	for i, change := range []func(*repo.Site){
		func(s *repo.Site) { s.Shelf = nil },
		func(s *repo.Site) { s.Cell = nil },
		func(s *repo.Site) { s.Clock = nil },
		func(s *repo.Site) { *s = repo.Site{} },
	} {
		s := p.site("s")
		change(&s)
		checkNoCreate(t, fmt.Sprint(i), s, config(), api.ErrArg)
		checkNoOpen(t, fmt.Sprint(i), s, config(), api.ErrArg)
	}
}

// Create where there is something already: ErrThere, ahead of what the store tells; nothing is changed.
func TestCreateThere(t *testing.T) {
	p, _ := created(t, trees()...)
	was := p.objects()
	checkNoCreate(t, "there", p.site("c"), config(), api.ErrThere)
	p.checkObjects("there", was)
	p.steal("config")
	checkNoCreate(t, "stolen", p.site("c"), config(), api.ErrThere)
	p.forge("config", "")
	q := newPlace(t, room)
	s := p.site("c")
	s.Cell = q.cell
	checkNoCreate(t, "forged", s, config(), api.ErrThere)

	// A cell by another store's power: each of the two things is told where the other one is off.
	q.store.Arm(0)
	q.store.Nudge()
	checkNoCreate(t, "the cell is off", s, config(), api.ErrThere)
	s = p.site("c")
	s.Shelf = q.store
	checkNoCreate(t, "the store is off", s, config(), api.ErrThere)
	q.store.Crash()
	q.store.Arm(0)
	q.store.Nudge()
	checkNoCreate(t, "both are off", q.site("c"), config(), api.ErrDown)
	s = q.site("c")
	s.Shelf = newPlace(t, room).store
	checkNoCreate(t, "the cell is off, and nothing there", s, config(), api.ErrDown)
}

// Create without room, or where the power goes: nothing is there, or all of it.
func TestCreateBroken(t *testing.T) {
	p := newPlace(t, room)
	p.create()
	size := p.store.Used()
	small := newPlace(t, size-1)
	checkNoCreate(t, "no room", small.site("c"), config(), api.ErrFull)
	small.checkObjects("no room", map[string]string{})
	just := newPlace(t, size)
	just.create()
	for n := range 4 {
		for _, keep := range []int{0, 5, size + 1} {
			p := newPlace(t, room)
			p.store.Arm(n)
			r, e := repo.Create(p.site("c"), config())
			if (e == api.OK) != (n == 3) || e != api.OK && (e != api.ErrDown || r != nil) {
				t.Fatal(n, e)
			}
			p.store.Crash(keep)
			if e == api.OK {
				p.open("o", 7)
				continue
			}
			checkNoOpen(t, "broken", p.site("o"), config(), api.ErrMiss)
			p.create()
			p.checkPlaces("broken", map[string]int{"": 1})
			backup(t, p.open("o", 7), trees()[0], 1)
		}
	}
}

// Open where there is nothing, or no power.
func TestOpenWrong(t *testing.T) {
	p := newPlace(t, room)
	checkNoOpen(t, "new", p.site("o"), config(), api.ErrMiss)
	p.create()
	p.store.Arm(0)
	p.store.Nudge()
	checkNoOpen(t, "off", p.site("o"), config(), api.ErrDown)
	p.store.Crash()
	q := newPlace(t, room)
	q.store.Arm(0)
	q.store.Nudge()
	s := p.site("o")
	s.Cell = q.cell
	checkNoOpen(t, "the cell is off", s, config(), api.ErrDown)
	p.steal("config")
	checkNoOpen(t, "stolen", p.site("o"), config(), api.ErrMiss)
}

// Open by another word, or of an object that isn't as it was: ErrCorrupt.
func TestOpenCorrupt(t *testing.T) {
	p := newPlace(t, room)
	p.create()
	c := config()
	for _, word := range []string{"A word", "a wor", "a word ", "w"} {
		c.Word = word
		checkNoOpen(t, word, p.site("o"), c, api.ErrCorrupt)
	}
	b := []byte(p.objects()["config"])
	for i := range b {
		p.forge("config", string(b[:i]))
		checkNoOpen(t, fmt.Sprint("cut to ", i), p.site("o"), config(), api.ErrCorrupt)
		other := slices.Clone(b)
		other[i] ^= 1
		p.forge("config", string(other))
		checkNoOpen(t, fmt.Sprint("other byte ", i), p.site("o"), config(), api.ErrCorrupt)
	}
	p.forge("config", string(b)+"x")
	checkNoOpen(t, "a byte more", p.site("o"), config(), api.ErrCorrupt)
	// More steps than there may be.
	p.forge("config", string(b[:19])+"\xa1\x8d\x06"+string(b[20:]))
	checkNoOpen(t, "steps", p.site("o"), config(), api.ErrCorrupt)
	// Another one's own, by another word.
	c.Word = "theirs"
	q := newPlace(t, room)
	_, e := repo.Create(q.site("q"), c)
	checkErrno(t, "theirs", e, api.OK)
	p.forge("config", q.objects()["config"])
	checkNoOpen(t, "theirs", p.site("o"), config(), api.ErrCorrupt)
	p.forge("config", string(b))
	p.open("o", 7)
}

// Nonces: of the tape of the beginning, the cell's number and the store's Steps when it was opened.
func TestTapes(t *testing.T) {
	p, _ := created(t, trees()[:2]...)
	for i := range 3 {
		number, _ := p.cell.Read()
		nonces := tapeOf("begin", number, p.store.Steps(), 16)
		r := p.open("begin", 3)
		checkErrno(t, "Begin", r.Begin(repo.Work{What: repo.Backup}), api.OK)
		for range 2 {
			r.Step()
		}
		b, e := p.store.Get("k/03")
		if e != api.OK || string(b[:16]) != string(nonces) {
			t.Error(i, "another nonce", e)
		}
	}
	// The hand that created goes on with the tape of which the salt and the proof had the first bytes.
	p = newPlace(t, room)
	r := p.create()
	r.Begin(repo.Work{What: repo.Check})
	r.Step()
	r.Step()
	b, e := p.store.Get("k/07")
	if e != api.OK || string(b[:16]) != string(tapeOf("create", 0, 0, 48)[32:]) {
		t.Error("another nonce", e)
	}
}

// No nonce is used twice: whatever is sealed there has another one, however often it is opened, with one beginning.
func TestNoncesOnce(t *testing.T) {
	p, _ := created(t)
	nonces := map[string]string{}
	for i := range 12 {
		r := p.open("same", 7)
		backup(t, r, []api.Item{file("f", fmt.Sprint(i)), file("g", string(some(int64(i), 600)))}, i+1)
		for name, b := range p.objects() {
			if name == "config" || nonces[b[:16]] == name {
				continue
			}
			if other, ok := nonces[b[:16]]; ok {
				t.Errorf("%s and %s have one nonce", name, other)
			}
			nonces[b[:16]] = name
		}
	}
}

// What is handed in isn't kept or changed.
func TestBeginIsCopied(t *testing.T) {
	p := newPlace(t, room)
	begin := []byte("begin")
	s := p.site("")
	s.Begin = begin[:3]
	r, e := repo.Create(s, config())
	checkErrno(t, "Create", e, api.OK)
	if string(begin) != "begin" {
		t.Error("changed")
	}
	clear(begin)
	if string(r.Site.Begin) != "beg" {
		t.Error("kept")
	}
}

// P21: a repo's site has all its calls: who has a repo can work with its store, its cell, its clock.
func TestRepoHasItsSite(t *testing.T) {
	p, r := created(t, trees()...)
	n, e := r.Read()
	if n != 4 || e != api.OK || r.Now() != p.clock.Now() || r.Used() != p.store.Used() || r.Steps() != p.store.Steps() {
		t.Error("not its site's calls")
	}
}

// P1: nil ones, and a repo that neither Create nor Open made.
func TestNilOnes(t *testing.T) {
	var r *repo.Repo
	checkErrno(t, "Begin", r.Begin(repo.Work{What: 1}), api.ErrArg)
	if a, _, e := r.Step(); e != api.ErrArg || !isEmpty(a) {
		t.Error("Step", a, e)
	}
	for what := range 8 {
		checkNot(t, "nil", r, repo.Work{What: what}, api.ErrArg)
	}
	if s, l, e := r.Saver(); s.Vault != nil || l != nil || e != api.ErrArg {
		t.Error("Saver", e)
	}
	if has, alone := r.Held(); has || alone {
		t.Error("Held")
	}
	for _, r := range []*repo.Repo{{}, {Site: newPlace(t, room).site("x")}, {Site: repo.Site{Shelf: new(shelf.Shelf), Cell: new(cell.Cell), Clock: new(cell.Clock)}}} {
		r.Held()
		r.Step()
		r.Saver()
		for what := range 8 {
			r.Do(repo.Work{What: what, Seq: 1, Items: trees()[0]})
		}
	}
	s := repo.Site{Shelf: new(shelf.Shelf), Cell: new(cell.Cell), Clock: new(cell.Clock)}
	checkNoCreate(t, "a store without room", s, config(), api.ErrFull)
	checkNoOpen(t, "a store without room", s, config(), api.ErrMiss)
}
