package mount_test

import (
	"fmt"
	"maps"
	"math/rand"
	"slices"
	"testing"

	"hypogeum/api"
	"hypogeum/mount"
	"hypogeum/repo"
)

// attacked: a place with some snapshots; what they are; and objects that were there in elder times.
func attacked(t *testing.T, target int) (*place, *repo.Repo, map[int][]api.Item, map[string]string) {
	t.Helper()
	p, r := created(t, by(7, target), plain(), many(5))
	elder := p.objects()
	for _, w := range []repo.Work{{What: repo.Backup, Items: deep(3)}, {What: repo.Forget, Seq: 2}, {What: repo.Prune}, {What: repo.Backup, Items: append(many(3), plain()...)}} {
		do(t, r, w)
		maps.Copy(elder, p.objects())
	}
	now := p.objects()
	maps.DeleteFunc(elder, func(name, b string) bool { return now[name] == b })
	return p, r, map[int][]api.Item{1: plain(), 3: deep(3), 5: append(many(3), plain()...)}, elder
}

// checkMounts: of each snapshot's mount all answers are right, or ErrCorrupt; so is Diff. How many are ErrCorrupt.
func checkMounts(t *testing.T, what string, mounts map[int]*mount.Mount, trees map[int][]api.Item) int {
	t.Helper()
	n := 0
	for i, m := range mounts {
		_, corrupt := checkHonest(t, fmt.Sprint(what, ", snapshot ", i), m, trees[i])
		n += corrupt
		for j, k := range mounts {
			switch l, e := mount.Diff(m, k); {
			case e == api.ErrCorrupt && l == nil:
				n++
			case e != api.OK || !slices.Equal(l, diffOf(trees[i], trees[j])):
				t.Errorf("%s: Diff of %d and %d: %.200q, %d", what, i, j, l, e)
			}
		}
	}
	return n
}

// openAll: the mounts of all snapshots, as far as they are told.
func openAll(t *testing.T, what string, r *repo.Repo, trees map[int][]api.Item) map[int]*mount.Mount {
	t.Helper()
	mounts := map[int]*mount.Mount{}
	for seq := range trees {
		m, e := mount.Open(r, seq)
		if e == api.OK {
			mounts[seq] = m
		} else if e != api.ErrCorrupt || m != nil {
			t.Errorf("%s: Open(%d): %d", what, seq, e)
		}
	}
	return mounts
}

// attacks: what somebody who hasn't the word may do to each object, or with objects of elder times.
func attacks(p *place, elder map[string]string) map[string]func() {
	objects := p.objects()
	names := slices.Sorted(maps.Keys(objects))
	put := func(name, b string) func() { return func() { p.forge(name, b) } }
	all := map[string]func(){"all elder ones": func() {
		for name, b := range elder {
			p.forge(name, b)
		}
	}}
	for i, name := range names {
		b, next := objects[name], names[(i+1)%len(names)]
		all["steals "+name] = func() { p.steal(name) }
		for _, at := range []int{3, len(b) - 1} {
			other := []byte(b)
			other[at] ^= 32
			all[fmt.Sprint("changes ", name, " at ", at)] = put(name, string(other))
		}
		all["cuts "+name], all["goes on with "+name], all["empties "+name] = put(name, b[:len(b)/2]), put(name, b+"x"), put(name, "")
		all["swaps "+name] = func() { p.forge(name, objects[next]); p.forge(next, b) }
	}
	for name, b := range elder {
		all["elder "+name] = put(name, b)
	}
	for _, name := range []string{"x/junk", "p/junk", "s/junk", "s/00000006", "other"} {
		all["lays "+name] = put(name, "junk")
	}
	return all
}

// P22.2: whatever somebody else does to the store, ahead of opening a mount and behind: what is told is right, or ErrCorrupt.
func TestAttacks(t *testing.T) {
	for _, target := range []int{500, 800000} {
		t.Run(fmt.Sprint(target), func(t *testing.T) {
			t.Parallel()
			p, r, trees, elder := attacked(t, target)
			whole := p.store.Photo()
			corrupt := 0
			for what, act := range attacks(p, elder) {
				mounts := openAll(t, what, r, trees)
				act()
				corrupt += checkMounts(t, what, mounts, trees)
				corrupt += checkMounts(t, what+" ahead", openAll(t, what, r, trees), trees)
				p.store.Restore(whole)
				if checkMounts(t, what+", put right", mounts, trees) > 0 {
					t.Error(what, "was put right, but isn't")
				}
			}
			if corrupt < 1000 {
				t.Error(corrupt)
			}
		})
	}
}

// P22.2: in scripts in which somebody does many things, and the hands go on with their work as far as that can be.
func TestAttackScripts(t *testing.T) {
	corrupt, right := 0, 0
	for seed := range int64(16) {
		chance := rand.New(rand.NewSource(seed))
		p, r, trees, elder := attacked(t, 1+chance.Intn(900))
		mounts := openAll(t, "first", r, trees)
		gone := maps.Clone(trees)
		images := []func(){}
		all := attacks(p, elder)
		names := slices.Sorted(maps.Keys(all))
		for n := range 12 {
			what := fmt.Sprint(seed, " ", n)
			image := p.store.Photo()
			images = append(images, func() { p.store.Restore(image) })
			switch chance.Intn(4) {
			case 0:
				images[chance.Intn(len(images))]()
			case 1:
				l := p.names("")
				p.steal(l[chance.Intn(len(l))])
				image = p.store.Photo()
			case 2:
				if name := names[chance.Intn(len(names))]; name[:5] != "steal" {
					all[name]()
				}
			}
			w := repo.Work{What: []int{repo.Backup, repo.Forget, repo.Prune}[chance.Intn(3)], Items: chancy(chance, 3), Seq: 1 + chance.Intn(8)}
			if a, e := r.Do(w); e == api.OK && w.What == repo.Backup {
				trees[a.Seq], gone[a.Seq] = w.Items, w.Items
			} else if e == api.OK && w.What == repo.Forget {
				delete(trees, w.Seq)
			}
			corrupt += checkMounts(t, what, mounts, gone)
			fresh := openAll(t, what, r, trees)
			checkMounts(t, what, fresh, trees)
			maps.Copy(mounts, fresh)
			right += len(fresh)
		}
	}
	if corrupt < 1000 || right < 50 {
		t.Error(corrupt, right)
	}
}
