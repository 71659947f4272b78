package check

import (
	"gleaner/api"
	"gleaner/code"
)

// none is the depth of an instruction that has none.
const none = -1

// walk goes over a function of a job, and stands at a place of it.
type walk struct {
	api.Func
	place
	funcs []api.Func // the job's
	depth []int
	gone  []bool // which instructions were gone over for their depths
	low   int    // all ahead of it that have a depth were gone over
}

// newWalk answers a walk that stands at the beginning of function n of j.
func newWalk(j api.Job, n int) *walk {
	return &walk{Func: j.Funcs[n], place: place{fn: n}, funcs: j.Funcs}
}

// instructions looks at each instruction on its own.
func (w *walk) instructions() {
	for k, i := range w.Code {
		w.at = k
		w.instruction(i)
	}
}

func (w *walk) instruction(i api.Ins) {
	w.need(code.Name(i.Op) != "" && (code.HasN(i.Op) || i.N == 0), api.ErrOp)
	switch i.Op {
	case api.Load, api.Store:
		w.need(has(w.Locals, i.N), api.ErrLocal)
	case api.Jump, api.Zero:
		w.need(has(len(w.Code), i.N), api.ErrJump)
	case api.Spawn:
		w.need(has(len(w.funcs), i.N), api.ErrFunc)
	}
}

// depths gives each instruction that can be reached its depth.
func (w *walk) depths() {
	w.depth, w.gone = make([]int, len(w.Code)), make([]bool, len(w.Code))
	for k := range w.depth {
		w.depth[k] = none
	}
	w.give(0, 0)
	for w.least() {
		w.goOver()
	}
}

// give gives the instruction at to, which has no depth, the depth d.
func (w *walk) give(to, d int) {
	w.depth[to] = d
	w.low = min(w.low, to)
}

// least brings the walk to the least instruction that has a depth and was not gone over; false: there is none.
func (w *walk) least() bool {
	for has(len(w.Code), w.low) && (w.depth[w.low] == none || w.gone[w.low]) {
		w.low++
	}
	w.at = w.low
	return has(len(w.Code), w.at)
}

// goOver hands the depth behind the instruction where the walk stands on to those that it goes on to.
func (w *walk) goOver() {
	w.gone[w.at] = true
	behind := w.behind(w.Code[w.at])
	for _, to := range code.Next(w.Code[w.at], w.at) {
		w.need(has(len(w.Code), to), api.ErrJump)
		if w.depth[to] == none {
			w.give(to, behind)
		}
		w.need(w.depth[to] == behind, api.ErrStack)
	}
}

// behind answers the depth behind i. What it pops is held against both bounds, not reckoned with ahead of them: the Args of a function that was not looked at yet may be any number, and would wrap round.
func (w *walk) behind(i api.Ins) int {
	depth, pops, pushes := w.depth[w.at], code.Pops(i, w.funcs...), code.Pushes(i)
	w.need(within(pops, depth+pushes-api.MaxStack, depth), api.ErrStack)
	return depth - pops + pushes
}
