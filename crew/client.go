package crew

import (
	"bytes"
	"slices"
	"strconv"

	"hypogeum/api"
	"hypogeum/cut"
	"hypogeum/repo"
)

// client is one of a crew.
type client struct {
	*repo.Repo
	config repo.Config
	begin  []byte // of its first tape
	lives  int    // how many hands it had ahead of this one
	begun  int    // when its work began; or, while it isn't busy, when it might begin at the earliest
}

// config: the one of the client of a number.
func config(number int) repo.Config {
	return repo.Config{
		Word:   "crew",
		Client: number,
		Rule:   cut.Rule{Least: 64, Most: 400, Bits: 6, Poly: 0x3da3358b4dc173},
		Target: 500,
	}
}

// hire: the client of a number, at the crew's site. The first one finds nothing there.
func (c *Crew) hire(number int, begin []byte) (*client, api.Errno) {
	x := &client{config: config(number), begin: slices.Concat(begin, []byte{byte(number)})}
	s := c.Site
	s.Begin = x.begin
	open := repo.Open
	if number == 0 {
		open = repo.Create
	}
	r, e := open(s, x.config)
	if e != api.OK {
		return nil, e
	}
	x.Repo = r
	return x, api.OK
}

// reopen: another hand, in the place of the one that there was.
func (x *client) reopen() api.Errno {
	s := x.Site
	// By the cell's number and the store's Steps alone two lives would have one tape, if nothing was changed between them.
	s.Begin = strconv.AppendInt(bytes.Clone(x.begin), int64(x.lives+1), 10)
	r, e := repo.Open(s, x.config)
	if e != api.OK {
		return e
	}
	x.Repo = r
	x.lives++
	return api.OK
}

// isBusy: is work under way? Only the hand knows, as it may be begun and stepped without the crew; this begins none.
func (x *client) isBusy() bool {
	return x.Repo.Begin(repo.Work{}) == api.ErrThere
}

// rest: whoever isn't busy can't have begun what comes next ahead of now.
func (x *client) rest(now int) {
	if !x.isBusy() {
		x.begun = now
	}
}
