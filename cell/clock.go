package cell

import "hypogeum/api"

// mostTime is how far a clock goes.
const mostTime = 1 << 40

// Clock is a clock that a script moves.
type Clock struct {
	now int
}

// Now, Tick: what time it is; time goes on.
func (c *Clock) Now() int {
	if c == nil {
		return 0
	}
	return c.now
}

func (c *Clock) Tick(n int) api.Errno {
	if c == nil || n < 0 || n > mostTime-c.now {
		return api.ErrArg
	}
	c.now += n
	return api.OK
}
