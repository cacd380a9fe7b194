package mount_test

import (
	"fmt"
	"maps"
	"math"
	"math/rand"
	"slices"
	"strings"
	"testing"

	"hypogeum/api"
	"hypogeum/cell"
	"hypogeum/cut"
	"hypogeum/mount"
	"hypogeum/repo"
	"hypogeum/shelf"
	"hypogeum/tree"
)

const prime = 0x3da3358b4dc173

// some: bytes that look like chance, the same ones each time.
func some(seed int64, n int) string {
	b := make([]byte, n)
	rand.New(rand.NewSource(seed)).Read(b)
	return string(b)
}

func file(name string, data string) api.Item {
	return api.Item{Name: name, Mode: 0o644, Time: 7, Data: data}
}

func dir(name string, l ...api.Item) api.Item {
	return api.Item{Name: name, Kind: api.Dir, Mode: 0o755, Time: 8, Kids: l}
}

func link(name, aim string) api.Item {
	return api.Item{Name: name, Kind: api.Link, Mode: 0o777, Time: 9, Data: aim}
}

// small: a rule by which files of some hundred bytes have pieces.
func small() cut.Rule { return cut.Rule{Least: 64, Most: 200, Bits: 5, Poly: prime} }

// by: a client's config, by which packs have so many bytes.
func by(client, target int) repo.Config {
	return repo.Config{Word: "a word", Steps: 2, Client: client, Rule: small(), Target: target}
}

// plain: a tree with one of each.
func plain() []api.Item {
	return []api.Item{
		file("z", some(1, 900)), dir("d", file("f", "abc"), link("l", "../z"), dir("none"), dir("e", file("g", some(2, 300)))), file("empty", ""), link("away", "d/f"), dir("x", file("g", some(2, 300))),
	}
}

// chancy: a tree by chance, of few names and few bytes.
func chancy(chance *rand.Rand, levels int) []api.Item {
	var l []api.Item
	for _, i := range chance.Perm(7)[:chance.Intn(6)] {
		x := api.Item{Name: []string{"a", "a-b", "a.b", "b", "c!", "ü", "\xff"}[i], Mode: chance.Intn(2), Time: chance.Intn(2)}
		switch n := chance.Intn(5); {
		case n < 2 && levels > 1:
			x.Kind, x.Kids = api.Dir, chancy(chance, levels-1)
		case n == 2:
			x.Kind, x.Data = api.Link, strings.Repeat("aim", 1+chance.Intn(2))
		default:
			x.Data = some(int64(chance.Intn(2)), 300*chance.Intn(3))
		}
		l = append(l, x)
	}
	return l
}

// deep: so many directories, one in the other, in the last one a link.
func deep(n int) []api.Item {
	l := []api.Item{link("l", "aim")}
	for range n {
		l = []api.Item{dir("d", l...)}
	}
	return l
}

// place is where backups are.
type place struct {
	t     *testing.T
	store *shelf.Shelf
	cell  *cell.Cell
	clock *cell.Clock
}

func newPlace(t *testing.T) *place {
	t.Helper()
	s, e := shelf.New(1 << 28)
	checkErrno(t, "shelf.New", e, api.OK)
	c, e := cell.New(s)
	checkErrno(t, "cell.New", e, api.OK)
	return &place{t, s, c, new(cell.Clock)}
}

func (p *place) site(begin string) repo.Site {
	return repo.Site{Shelf: p.store, Cell: p.cell, Clock: p.clock, Begin: []byte(begin)}
}

// open: a hand, with a tape of this beginning.
func (p *place) open(begin string, c repo.Config) *repo.Repo {
	p.t.Helper()
	r, e := repo.Open(p.site(begin), c)
	checkErrno(p.t, "repo.Open", e, api.OK)
	return r
}

// created: a place with snapshots of these trees, from 1 on; the hand that made them.
func created(t *testing.T, c repo.Config, l ...[]api.Item) (*place, *repo.Repo) {
	t.Helper()
	p := newPlace(t)
	r, e := repo.Create(p.site("create"), c)
	checkErrno(t, "repo.Create", e, api.OK)
	for i, items := range l {
		backup(t, r, i+1, items)
	}
	return p, r
}

// backup: a snapshot that gets this number.
func backup(t *testing.T, r *repo.Repo, want int, items []api.Item) {
	t.Helper()
	if a := do(t, r, repo.Work{What: repo.Backup, Items: items}); a.Seq != want {
		t.Fatal("Backup", a.Seq, "not", want)
	}
}

// do: work that answers OK.
func do(t *testing.T, r *repo.Repo, w repo.Work) repo.Answer {
	t.Helper()
	a, e := r.Do(w)
	checkErrno(t, fmt.Sprint("Do ", w.What), e, api.OK)
	return a
}

// mounted: the mount of a snapshot.
func mounted(t *testing.T, r *repo.Repo, seq int) *mount.Mount {
	t.Helper()
	m, e := mount.Open(r, seq)
	if m == nil || e != api.OK {
		t.Fatal("mount.Open", seq, e)
	}
	return m
}

func checkErrno(t *testing.T, what string, e, want api.Errno) {
	t.Helper()
	if e != want {
		t.Fatalf("%s: %d, not %d", what, e, want)
	}
}

// names: of all objects that begin so.
func (p *place) names(prefix string) []string {
	p.t.Helper()
	l, e := p.store.List(prefix)
	checkErrno(p.t, "List", e, api.OK)
	return l
}

// objects: all that the store has.
func (p *place) objects() map[string]string {
	p.t.Helper()
	m := map[string]string{}
	for _, name := range p.names("") {
		b, e := p.store.Get(name)
		checkErrno(p.t, "Get "+name, e, api.OK)
		m[name] = string(b)
	}
	return m
}

func (p *place) forge(name, b string) {
	p.t.Helper()
	checkErrno(p.t, "Forge "+name, p.store.Forge(name, []byte(b)), api.OK)
}

func (p *place) steal(names ...string) {
	p.t.Helper()
	for _, name := range names {
		checkErrno(p.t, "Steal "+name, p.store.Steal(name), api.OK)
	}
}

// question is a call, and its answer by the document's words, as a text: "" where it is a zero value.
type question struct {
	what string
	ask  func(m *mount.Mount) (string, api.Errno)
	want string
	e    api.Errno
}

// text: of rows.
func text(l ...tree.Row) string {
	b := ""
	for _, x := range l {
		if x != (tree.Row{}) {
			b += fmt.Sprintf("%q %d %d\n", x.Path, x.Kind, x.Size)
		}
	}
	return b
}

func stat(path, want string, e api.Errno) question {
	return question{fmt.Sprintf("Stat(%.99q)", path), func(m *mount.Mount) (string, api.Errno) {
		x, e := m.Stat(path)
		return text(x), e
	}, want, e}
}

func list(path, want string, e api.Errno) question {
	return question{fmt.Sprintf("List(%.99q)", path), func(m *mount.Mount) (string, api.Errno) {
		l, e := m.List(path)
		return text(l...), e
	}, want, e}
}

func read(path string, at, count int, want string, e api.Errno) question {
	return question{fmt.Sprintf("Read(%.99q, %d, %d)", path, at, count), func(m *mount.Mount) (string, api.Errno) {
		b, e := m.Read(path, at, count)
		return string(b), e
	}, want, e}
}

func aim(path, want string, e api.Errno) question {
	return question{fmt.Sprintf("Aim(%.99q)", path), func(m *mount.Mount) (string, api.Errno) { return m.Aim(path) }, want, e}
}

// refused: all calls with a path, that answer this error.
func refused(path string, e api.Errno) []question {
	return []question{stat(path, "", e), list(path, "", e), read(path, 0, 1, "", e), read(path, -1, 0, "", e), aim(path, "", e)}
}

// questions: all calls of a tree's mount with the paths of all its items, and with others.
func questions(items []api.Item) []question {
	rows := append([]tree.Row{{Kind: api.Dir}}, tree.Rows(items...)...)
	var l []question
	for _, x := range rows {
		l = append(l, stat(x.Path, text(x), api.OK))
		item, _ := tree.Find(x.Path, items...)
		switch x.Kind {
		case api.Dir:
			l = append(l, list(x.Path, text(kids(x.Path, rows)...), api.OK), read(x.Path, 0, 1, "", api.ErrArg), aim(x.Path, "", api.ErrArg))
			l = append(l, refused(join(x.Path, "none there"), api.ErrMiss)...)
		case api.File:
			l = append(l, list(x.Path, "", api.ErrArg), aim(x.Path, "", api.ErrArg))
			l = append(l, reads(x.Path, item.Data)...)
			l = append(l, refused(x.Path+"/a", api.ErrMiss)...)
		case api.Link:
			l = append(l, list(x.Path, "", api.ErrArg), read(x.Path, 0, 1, "", api.ErrArg), aim(x.Path, item.Data, api.OK))
			l = append(l, refused(x.Path+"/a", api.ErrMiss)...)
		}
		l = append(l, refused(join(x.Path, ""), api.ErrName)...)
	}
	return l[:len(l):len(l)]
}

// join: the path of an item of a directory; of no name one that is none.
func join(path, name string) string {
	if path == "" && name != "" {
		return name
	}
	return path + "/" + name
}

// kids: the rows of a directory's own items.
func kids(path string, rows []tree.Row) []tree.Row {
	var l []tree.Row
	for _, x := range rows {
		if name := x.Path[strings.LastIndex(x.Path, "/")+1:]; name != "" && x.Path == join(path, name) {
			l = append(l, x)
		}
	}
	return l
}

// reads: of a file's bytes, from some places on.
func reads(path, data string) []question {
	l := []question{read(path, -1, 1, "", api.ErrArg), read(path, 0, math.MaxInt, data, api.OK), read(path, len(data), 1, "", api.OK), read(path, 0, -1, "", api.OK)}
	for _, at := range []int{0, 199, 250} {
		for _, count := range []int{1, 70} {
			from := min(at, len(data))
			l = append(l, read(path, at, count, data[from:min(from+count, len(data))], api.OK))
		}
	}
	return l
}

// checkAll: all answers are those of the tree.
func checkAll(t *testing.T, what string, m *mount.Mount, items []api.Item) {
	t.Helper()
	for _, q := range questions(items) {
		if got, e := q.ask(m); got != q.want || e != q.e {
			t.Errorf("%s: %s: %.200q, %d, not %.200q, %d", what, q.what, got, e, q.want, q.e)
		}
	}
}

// checkHonest: all answers are those of the tree, or ErrCorrupt; how many are.
func checkHonest(t *testing.T, what string, m *mount.Mount, items []api.Item) (right, corrupt int) {
	t.Helper()
	for _, q := range questions(items) {
		switch got, e := q.ask(m); {
		case got == q.want && e == q.e:
			right++
		case got == "" && e == api.ErrCorrupt:
			corrupt++
		default:
			t.Errorf("%s: %s: %.200q, %d, not %.200q, %d", what, q.what, got, e, q.want, q.e)
		}
	}
	return right, corrupt
}

// diffOf: by the document's words, what differs of two trees that are cut by one rule.
func diffOf(a, b []api.Item) []string {
	l, k := byPath("", a), byPath("", b)
	var paths []string
	for path, x := range l {
		y, ok := k[path]
		if !ok || x.Kind != y.Kind || x.Mode != y.Mode || x.Time != y.Time || x.Data != y.Data {
			paths = append(paths, path)
		}
	}
	for path := range k {
		if _, ok := l[path]; !ok {
			paths = append(paths, path)
		}
	}
	slices.Sort(paths)
	return paths
}

// byPath: all items of a tree.
func byPath(begin string, l []api.Item) map[string]api.Item {
	m := map[string]api.Item{}
	for _, x := range l {
		m[begin+x.Name] = x
		maps.Copy(m, byPath(begin+x.Name+"/", x.Kids))
	}
	return m
}

func checkDiff(t *testing.T, what string, a, b *mount.Mount, want []string) {
	t.Helper()
	if got, e := mount.Diff(a, b); !slices.Equal(got, want) || e != api.OK {
		t.Errorf("%s: Diff: %.400q, %d, not %.400q", what, got, e, want)
	}
}

// checkNoDiff: this error, and nothing beside it.
func checkNoDiff(t *testing.T, what string, a, b *mount.Mount, want api.Errno) {
	t.Helper()
	if got, e := mount.Diff(a, b); got != nil || e != want {
		t.Errorf("%s: Diff: %.400q, %d, not %d", what, got, e, want)
	}
}
