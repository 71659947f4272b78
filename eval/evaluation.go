package eval

import (
	"slices"

	"gleaner/api"
	"gleaner/ident"
	"gleaner/task"
)

// evaluation does the tasks of a job that Check takes. A task waits for its own spawns alone, so that each can be done whole as soon as it is spawned.
type evaluation struct {
	api.Job
	entries []api.Entry // of the tasks that were begun, in that order: each behind the one that spawned it and ahead of that one's later spawns, which is by rising names
	over    bool        // there would be more tasks than may be
}

// doing is a task that goes on.
type doing struct {
	api.Entry // what is known of it yet
	state     api.State
	results   []api.Result // of its spawns
	ended     bool
}

// do does a task and all that come of it, unless that is too many; it answers what the task ended with.
func (v *evaluation) do(id api.ID, f int, args ...int) api.Result {
	at := len(v.entries)
	if at == v.Tasks {
		v.over = true
		return api.Result{}
	}
	x := v.begin(id, f, args...)
	v.entries = append(v.entries, x.Entry)
	for !x.ended && !v.over {
		v.goOn(x)
	}
	v.entries[at] = x.Entry
	return x.Result
}

// begin answers a task that stands at its beginning. Begin refuses none: Check has seen to it that there is the function, and that it has so many arguments.
func (v *evaluation) begin(id api.ID, f int, args ...int) *doing {
	s, _ := task.Begin(v.Job, f, args...)
	return &doing{Entry: api.Entry{ID: id, Func: f, Args: slices.Clone(args)}, state: s}
}

// goOn brings x to its next event, and gives it what it wants there.
func (v *evaluation) goOn(x *doing) {
	s, e := task.RunKnown(v.Job, x.state, len(x.ID), v.Fuel)
	x.Steps += e.Steps
	switch e.Kind {
	case api.Spawned:
		id, _ := ident.Kid(x.ID, e.Kid) // there is one: task ends what spawns too many, or too deep
		x.Kids++
		x.results = append(x.results, v.do(id, e.Func, e.Args...))
	case api.Waiting:
		x.Awaits = append(x.Awaits, e.Kid)
		s, e = task.ResumeKnown(v.Job, s, x.results[e.Kid])
	}
	x.state = s
	if e.Kind == api.Ended {
		x.Result, x.ended = e.Result, true
	}
}
