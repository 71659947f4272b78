package deque

import (
	"gleaner/api"
)

// noCall is the kind of a call that is none.
const noCall = 0

// ongoing is a call that one who goes on with: of which kind it is, and how many of its steps are done.
type ongoing struct {
	values
	kind int
	item int // what is pushed
	step int
}

// values are a call's own: what it saw, while others went on.
type values struct {
	b, t, v int
	won     bool // whether it was the one that took the last item
}

// goOn does the step of c that it is at, and answers what c came to.
func (d *Deque) goOn(c *ongoing) int {
	switch c.kind {
	case api.DPush:
		return d.push(c)
	case api.DPop:
		return d.pop(c)
	}
	return d.steal(c)
}

// push has the item stand in its place ahead of the step from which on thieves can see it.
func (d *Deque) push(c *ongoing) int {
	switch c.step {
	case 1:
		c.b = d.bottom
	case 2:
		c.t = d.top
		if c.b-c.t >= d.row.Size()-1 {
			d.row = *d.row.Grown(c.t, c.b)
		}
	case 3:
		d.row.Put(c.b, c.item)
	default:
		d.bottom = c.b + 1
		return api.DDone
	}
	return api.DGoes
}

// pop takes the item away from thieves ahead of looking at how far they are. Only of the last one it must win against them.
func (d *Deque) pop(c *ongoing) int {
	switch c.step {
	case 1:
		c.b = d.bottom - 1
		d.bottom = c.b
	case 2:
		c.t = d.top
		if c.t > c.b {
			d.bottom = c.t
			return api.DEmpty
		}
	case 3:
		c.v = d.row.Get(c.b)
		if c.t < c.b {
			return api.DItem
		}
	case 4:
		c.won = d.winTop(c.t)
	default:
		d.bottom = c.t + 1
		if c.won {
			return api.DItem
		}
		return api.DEmpty
	}
	return api.DGoes
}

// steal reads the item ahead of winning it: behind that another one may stand in its place.
func (d *Deque) steal(c *ongoing) int {
	switch c.step {
	case 1:
		c.t = d.top
	case 2:
		c.b = d.bottom
		if c.b-c.t < 1 {
			return api.DEmpty
		}
	case 3:
		c.v = d.row.Get(c.t)
	default:
		if d.winTop(c.t) {
			return api.DItem
		}
		return api.DLost
	}
	return api.DGoes
}

// winTop takes the item at top away, if top is t still; of all who saw one top, one wins.
func (d *Deque) winTop(t int) bool {
	if d.top != t {
		return false
	}
	d.top = t + 1
	return true
}
