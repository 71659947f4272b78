package task

import (
	"errors"
	"strconv"

	"gleaner/api"
)

// failure is an error on its way up: what a task, or a call, ends with.
type failure struct {
	api.Result
}

func (f failure) Error() string {
	return "error " + strconv.Itoa(int(f.Err)) + " with " + strconv.Itoa(f.Value)
}

// need sends e up, unless it holds.
func need(holds bool, e api.Errno) {
	if !holds {
		panic(failure{api.Result{Err: e}})
	}
}

// wentUp answers what was sent up; false: nothing was.
func wentUp(up any) (api.Result, bool) {
	var f failure
	if err, ok := up.(error); ok && errors.As(err, &f) {
		return f.Result, true
	}
	return api.Result{}, false
}

// machine does a task of a job, from where it stands. An instruction looks at its values ahead of taking them off: where it ends the task, the stack is to be as it was.
type machine struct {
	state
	job   api.Job
	event api.Event // what it came to; More: it goes on
}

func newMachine(j api.Job, s api.State) *machine {
	return &machine{state: ownState(s), job: j}
}

// ended answers where the task stands, and that it ended with r.
func (m *machine) ended(r api.Result) (api.State, api.Event) {
	m.event.Kind, m.event.Result = api.Ended, r
	return m.State, m.event
}

// run goes on until an event, by at most so many steps.
func (m *machine) run(deep, steps int) {
	if m.Waits {
		m.wait()
	}
	for m.event.Kind == api.More && m.event.Steps < steps {
		m.step(deep)
	}
}

// resume gives the task what it waits for.
func (m *machine) resume(r api.Result) {
	if r.Err != api.OK {
		panic(failure{r})
	}
	m.Waits = false
	m.put(1, r.Value)
	m.Pc++
}

// step does the instruction where the task stands.
func (m *machine) step(deep int) {
	need(m.Fuel < m.job.Fuel, api.ErrFuel)
	m.Fuel++
	m.event.Steps++
	switch i := m.job.Funcs[m.Func].Code[m.Pc]; i.Op {
	case api.Jump:
		m.Pc = i.N
	case api.Zero:
		m.zero(i.N)
	case api.Spawn:
		m.spawn(i.N, deep)
	case api.Await:
		need(has(m.Kids, m.last()), api.ErrHandle)
		m.wait()
	case api.Ret:
		m.ended(api.Result{Value: m.last()})
	case api.Fail:
		panic(failure{api.Result{Err: api.ErrFail, Value: m.last()}})
	default:
		m.plain(i)
		m.Pc++
	}
}

// zero goes on at to, if the last value is 0.
func (m *machine) zero(to int) {
	m.Pc++
	if m.last() == 0 {
		m.Pc = to
	}
	m.put(1)
}

// spawn begins a task of function f; its arguments are the values that were pushed last.
func (m *machine) spawn(f, deep int) {
	need(deep < api.MaxDeep, api.ErrDeep)
	need(m.Kids < api.MaxKids, api.ErrKids)
	m.event.Kind, m.event.Func, m.event.Kid = api.Spawned, f, m.Kids
	m.event.Args = m.take(m.job.Funcs[f].Args)
	m.put(0, m.Kids)
	m.Kids++
	m.Pc++
}

// wait makes the task one that waits for the spawn whose handle was pushed last.
func (m *machine) wait() {
	m.Waits = true
	m.event.Kind, m.event.Kid = api.Waiting, m.last()
}

// plain does an instruction that turns values alone.
func (m *machine) plain(i api.Ins) {
	switch i.Op {
	case api.Push:
		m.put(0, i.N)
	case api.Pop:
		m.put(1)
	case api.Dup:
		m.put(0, m.last())
	case api.Swap:
		left, right := m.lastTwo()
		m.put(2, right, left)
	case api.Load:
		m.put(0, m.Locals[i.N])
	case api.Store:
		m.Locals[i.N] = m.last()
		m.put(1)
	default:
		left, right := m.lastTwo()
		m.put(2, reckon(i.Op, left, right))
	}
}

// reckon answers what one of add to eq makes of two values.
func reckon(op, left, right int) int {
	switch op {
	case api.Add:
		return left + right
	case api.Sub:
		return left - right
	case api.Mul:
		return left * right
	case api.Div:
		need(right != 0, api.ErrDiv)
		return left / right
	case api.Mod:
		need(right != 0, api.ErrDiv)
		return left % right
	case api.Lt:
		return oneIf(left < right)
	}
	return oneIf(left == right)
}

// oneIf answers 1 if it holds, else 0.
func oneIf(holds bool) int {
	if holds {
		return 1
	}
	return 0
}
