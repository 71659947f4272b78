package table

import (
	"slices"

	"gleaner/api"
	"gleaner/ident"
)

// names is a set of names.
type names struct{ in map[api.ID]struct{} }

func (n *names) has(id api.ID) bool {
	_, ok := n.in[id]
	return ok
}

func (n *names) put(id api.ID) {
	if n.in == nil {
		n.in = make(map[api.ID]struct{})
	}
	n.in[id] = struct{}{}
}

// take takes a name away; false: it is not there.
func (n *names) take(id api.ID) bool {
	ok := n.has(id)
	delete(n.in, id)
	return ok
}

// rising answers the names, sorted.
func (n *names) rising() []api.ID {
	var out []api.ID
	for id := range n.in {
		out = append(out, id)
	}
	return ident.Sort(out...)
}

// ready has the tasks that can go on, from the oldest to the newest.
type ready struct{ row []api.ID }

// Ready answers the tasks that can go on, from the oldest to the newest.
func (r *ready) Ready() []api.ID {
	out := make([]api.ID, len(r.row))
	for k, id := range r.row {
		out[k] = apart(id)
	}
	return out
}

// line has a task be the newest.
func (r *ready) line(id api.ID) { r.row = append(r.row, id) }

// newest takes the newest task out of the row; false: there is none.
func (r *ready) newest() (api.ID, bool) {
	last := len(r.row) - 1
	if last < 0 {
		return "", false
	}
	id := r.row[last]
	r.row = slices.Delete(r.row, last, last+1)
	return id, true
}

// oldest takes the oldest task out of the row; false: there is none. The others stay where they are: to move them each time would be slow.
func (r *ready) oldest() (api.ID, bool) {
	if len(r.row) == 0 {
		return "", false
	}
	id := r.row[0]
	r.row[0] = "" // else its bytes would stay in memory
	r.row = r.row[1:]
	return id, true
}

// going has the tasks that go on.
type going struct{ now names }

// Going answers the tasks that go on, by rising names.
func (g *going) Going() []api.ID { return g.now.rising() }

func (g *going) start(id api.ID) { g.now.put(id) }

// stop takes a task out of those that go on; false: it is none of them.
func (g *going) stop(id api.ID) bool { return g.now.take(id) }

// parked has the tasks that wait, by what they wait for: they leave all at one time.
type parked struct{ waiting map[api.ID][]api.ID }

// Parked answers the tasks that wait, by rising names.
func (p *parked) Parked() []api.ID {
	var out []api.ID
	for _, l := range p.waiting {
		out = append(out, l...)
	}
	return ident.Sort(out...)
}

// wait has a task wait for the other one.
func (p *parked) wait(id, on api.ID) {
	if p.waiting == nil {
		p.waiting = make(map[api.ID][]api.ID)
	}
	p.waiting[on] = append(p.waiting[on], id)
}

// leave takes out those that wait for one of these, and answers them, in no order.
func (p *parked) leave(on ...api.ID) []api.ID {
	var out []api.ID
	for _, x := range on {
		out = append(out, p.waiting[x]...)
		delete(p.waiting, x)
	}
	return out
}
