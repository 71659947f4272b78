package task_test

import (
	"fmt"
	"math"
	"slices"
	"testing"

	"gleaner/api"
	"gleaner/check"
	"gleaner/task"
)

// Instructions that most tests need.
var (
	pop   = api.Ins{Op: api.Pop}
	dup   = api.Ins{Op: api.Dup}
	swap  = api.Ins{Op: api.Swap}
	add   = api.Ins{Op: api.Add}
	div   = api.Ins{Op: api.Div}
	mod   = api.Ins{Op: api.Mod}
	await = api.Ins{Op: api.Await}
	ret   = api.Ins{Op: api.Ret}
	fail  = api.Ins{Op: api.Fail}
)

func push(n int) api.Ins  { return api.Ins{Op: api.Push, N: n} }
func load(n int) api.Ins  { return api.Ins{Op: api.Load, N: n} }
func store(n int) api.Ins { return api.Ins{Op: api.Store, N: n} }
func jump(n int) api.Ins  { return api.Ins{Op: api.Jump, N: n} }
func zero(n int) api.Ins  { return api.Ins{Op: api.Zero, N: n} }
func spawn(n int) api.Ins { return api.Ins{Op: api.Spawn, N: n} }

// fuel is what a task of most tests' jobs may take.
const fuel = 30

// jobOf is a job whose function 0 has that code and the locals 0 to 2, and which may spawn functions 1 to 4, of 0, 1, 3 and MaxArgs arguments.
func jobOf(c ...api.Ins) api.Job {
	j := api.Job{Fuel: fuel, Tasks: 9, Args: []int{7}, Funcs: []api.Func{{Name: "f", Args: 1, Locals: 3, Code: c}}}
	for k, n := range []int{0, 1, 3, api.MaxArgs} {
		j.Funcs = append(j.Funcs, api.Func{Name: fmt.Sprintf("g%d", k), Args: n, Locals: n + k, Code: []api.Ins{push(n), ret}})
	}
	return j
}

// same tells whether two states are one, nil and empty lists being the same.
func same(a, b api.State) bool {
	return a.Func == b.Func && a.Pc == b.Pc && a.Fuel == b.Fuel && a.Kids == b.Kids && a.Waits == b.Waits && slices.Equal(a.Stack, b.Stack) && slices.Equal(a.Locals, b.Locals)
}

func sameEvent(a, b api.Event) bool {
	return a.Kind == b.Kind && a.Func == b.Func && a.Kid == b.Kid && a.Steps == b.Steps && a.Result == b.Result && slices.Equal(a.Args, b.Args)
}

// ended is the event of a task that ended with an error.
func ended(e api.Errno, steps int) api.Event {
	return api.Event{Kind: api.Ended, Steps: steps, Result: api.Result{Err: e}}
}

// wantRun holds Run against a state and an event.
func wantRun(t *testing.T, name string, j api.Job, s api.State, deep, steps int, after api.State, e api.Event) {
	t.Helper()
	if got, v := task.Run(j, s, deep, steps); !same(got, after) || !sameEvent(v, e) {
		t.Errorf("P602: %s: %+v, %+v, not %+v, %+v", name, got, v, after, e)
	}
}

// wantResume holds Resume against a state and an event.
func wantResume(t *testing.T, name string, j api.Job, s api.State, r api.Result, after api.State, e api.Event) {
	t.Helper()
	if got, v := task.Resume(j, s, r); !same(got, after) || !sameEvent(v, e) {
		t.Errorf("P603: %s: %+v, %+v, not %+v, %+v", name, got, v, after, e)
	}
}

func TestP601Begin(t *testing.T) {
	j := jobOf(load(0), ret)
	for _, x := range []struct {
		f      int
		args   []int
		locals []int
	}{
		{0, []int{7}, []int{7, 0, 0}},
		{0, []int{math.MinInt}, []int{math.MinInt, 0, 0}},
		{1, nil, nil},
		{1, []int{}, nil},
		{2, []int{-4}, []int{-4, 0}},
		{3, []int{5, -6, 7}, []int{5, -6, 7, 0, 0}},
		{4, []int{1, 2, 3, 4, 5, 6, 7, 8}, []int{1, 2, 3, 4, 5, 6, 7, 8, 0, 0, 0}},
	} {
		s, e := task.Begin(j, x.f, x.args...)
		if want := (api.State{Func: x.f, Locals: x.locals}); e != api.OK || !same(s, want) {
			t.Errorf("P601: function %d of %v: %+v, error %d, not %+v", x.f, x.args, s, e, want)
		}
		if !task.May(j, s) {
			t.Errorf("P601: function %d of %v: its first state can't be: %+v", x.f, x.args, s)
		}
	}
	j.Main, j.Args = 3, []int{1, 2, 3} // a task need not be the first one
	if s, e := task.Begin(j, 0, 9); e != api.OK || !same(s, api.State{Locals: []int{9, 0, 0}}) {
		t.Errorf("P601: %+v, error %d", s, e)
	}
}

// wrongJobs are jobs that check does not take, each of them for another reason, by what it tells.
func wrongJobs() map[api.Errno]api.Job {
	turned := func(turn func(j *api.Job)) api.Job {
		j := jobOf(load(0), ret)
		turn(&j)
		return j
	}
	return map[api.Errno]api.Job{
		api.ErrFunc:  {},
		api.ErrLimit: turned(func(j *api.Job) { j.Fuel = 0 }),
		api.ErrArgs:  turned(func(j *api.Job) { j.Args = nil }),
		api.ErrName:  turned(func(j *api.Job) { j.Funcs[4].Name = "f" }),
		api.ErrLocal: turned(func(j *api.Job) { j.Funcs[0].Code[0].N = 3 }),
		api.ErrLong:  turned(func(j *api.Job) { j.Funcs[3].Code = nil }),
		api.ErrOp:    turned(func(j *api.Job) { j.Funcs[2].Code[0].Op = 20 }),
		api.ErrJump:  turned(func(j *api.Job) { j.Funcs[1].Code = j.Funcs[1].Code[:1] }),
		api.ErrStack: turned(func(j *api.Job) { j.Funcs[4].Code = []api.Ins{ret} }),
	}
}

func TestP601BeginErrors(t *testing.T) {
	want := func(name string, j api.Job, e api.Errno, f int, args ...int) {
		t.Helper()
		if s, got := task.Begin(j, f, args...); got != e || !same(s, api.State{}) {
			t.Errorf("P601: %s: %+v, error %d, not %d", name, s, got, e)
		}
	}
	j := jobOf(load(0), ret)
	for _, f := range []int{-1, 5, 6, math.MinInt, math.MaxInt} {
		want(fmt.Sprint("function ", f), j, api.ErrFunc, f)
		want(fmt.Sprint("function ", f, " of one"), j, api.ErrFunc, f, 7)
	}
	for f, n := range []int{1, 0, 1, 3, api.MaxArgs} {
		for args := range 12 {
			if args != n {
				want(fmt.Sprint("function ", f, " of ", args), j, api.ErrArgs, f, make([]int, args)...)
			}
		}
	}
	for e, j := range wrongJobs() {
		if _, _, told := check.Check(j); told != e {
			t.Fatalf("check tells %d, not %d", told, e)
		}
		want(fmt.Sprint("a job with error ", e), j, e, 0, 7)
		want(fmt.Sprint("a job with error ", e, ", of no function"), j, e, 9)
		want(fmt.Sprint("a job with error ", e, ", of too many arguments"), j, e, 0, 7, 7)
	}
}

// waiter is a job with an await at Pc 4, ahead of which stand 9 and a handle, and what no way leads to from Pc 6 on; and a state that waits there.
func waiter() (api.Job, api.State) {
	j := jobOf(push(9), load(0), spawn(2), jump(4), await, ret, push(1), ret)
	return j, api.State{Pc: 4, Stack: []int{9, 2}, Locals: []int{1, 2, 3}, Kids: 3, Fuel: 12, Waits: true}
}

// turns are ways to make waiter's state one that can't be.
func turns() map[string]func(s *api.State) {
	out := map[string]func(s *api.State){
		"one value less":     func(s *api.State) { s.Stack = s.Stack[:1] },
		"no values":          func(s *api.State) { s.Stack = nil },
		"one value more":     func(s *api.State) { s.Stack = []int{9, 9, 2} },
		"many values":        func(s *api.State) { s.Stack = make([]int, 1000) },
		"one local less":     func(s *api.State) { s.Locals = s.Locals[:2] },
		"no locals":          func(s *api.State) { s.Locals = nil },
		"one local more":     func(s *api.State) { s.Locals = make([]int, 4) },
		"waits, no await":    func(s *api.State) { s.Pc, s.Stack = 3, []int{9, 2} },
		"waits at a ret":     func(s *api.State) { s.Pc = 5 },
		"no way there":       func(s *api.State) { s.Pc, s.Stack, s.Waits = 6, nil, false },
		"no way behind it":   func(s *api.State) { s.Pc, s.Stack, s.Waits = 7, []int{1}, false },
		"waits, no kids":     func(s *api.State) { s.Kids, s.Stack = 0, []int{9, 0} },
		"waits at the start": func(s *api.State) { s.Pc, s.Stack = 0, nil },
	}
	numbers := func(name string, put func(s *api.State, n int), l ...int) {
		for _, n := range l {
			out[fmt.Sprint(name, " ", n)] = func(s *api.State) { put(s, n) }
		}
	}
	numbers("Func", func(s *api.State, n int) { s.Func = n }, 1, 2, 4, 5, -1, math.MinInt, math.MaxInt)
	numbers("Pc", func(s *api.State, n int) { s.Pc = n }, 0, 1, 6, 8, 9, -1, math.MinInt, math.MaxInt)
	numbers("Kids", func(s *api.State, n int) { s.Kids = n }, 2, 1, 0, -1, api.MaxKids+1, math.MinInt, math.MaxInt)
	numbers("Kids, not waiting,", func(s *api.State, n int) { s.Kids, s.Waits = n, false }, -1, api.MaxKids+1, math.MinInt, math.MaxInt)
	numbers("Fuel", func(s *api.State, n int) { s.Fuel = n }, -1, fuel+1, math.MinInt, math.MaxInt)
	numbers("handle", func(s *api.State, n int) { s.Stack = []int{9, n} }, -1, 3, 4, math.MinInt, math.MaxInt)
	return out
}

func TestP601May(t *testing.T) {
	j, s := waiter()
	for name, turn := range map[string]func(s *api.State){
		"as it is":                      func(s *api.State) {},
		"the first kid":                 func(s *api.State) { s.Stack = []int{9, 0} },
		"the only kid":                  func(s *api.State) { s.Kids, s.Stack = 1, []int{9, 0} },
		"the last of all kids":          func(s *api.State) { s.Kids, s.Stack = api.MaxKids, []int{9, api.MaxKids - 1} },
		"no Fuel used":                  func(s *api.State) { s.Fuel = 0 },
		"all Fuel used":                 func(s *api.State) { s.Fuel = fuel },
		"any locals and values":         func(s *api.State) { s.Locals, s.Stack = []int{math.MinInt, 0, math.MaxInt}, []int{math.MinInt, 1} },
		"does not wait":                 func(s *api.State) { s.Waits = false },
		"does not wait, no such handle": func(s *api.State) { s.Waits, s.Stack = false, []int{9, math.MinInt} },
		"does not wait, no kids":        func(s *api.State) { s.Waits, s.Kids = false, 0 },
		"the start":                     func(s *api.State) { *s = api.State{Locals: make([]int, 3)} },
		"the start, empty lists":        func(s *api.State) { *s = api.State{Stack: []int{}, Locals: make([]int, 3)} },
		"the start, some kids":          func(s *api.State) { *s = api.State{Locals: make([]int, 3), Kids: api.MaxKids} },
		"behind the await":              func(s *api.State) { s.Pc, s.Waits = 5, false },
		"another function":              func(s *api.State) { *s = api.State{Func: 1, Pc: 1, Stack: []int{4}} },
	} {
		x := s
		turn(&x)
		if !task.May(j, x) {
			t.Errorf("P601: %s: it can't be: %+v", name, x)
		}
	}
	for name, turn := range turns() {
		x := s
		turn(&x)
		if task.May(j, x) {
			t.Errorf("P601: %s: it can be: %+v", name, x)
		}
	}
	for e, j := range wrongJobs() {
		if task.May(j, api.State{Locals: make([]int, 3)}) {
			t.Errorf("P601: of a job with error %d it can be", e)
		}
	}
}

// stepTry is one instruction, done where these values and locals stand.
type stepTry struct {
	name          string
	i             api.Ins
	stack, locals []int
	want          []int
	wantLocals    []int
	pc            int
}

// Each instruction stands at Pc 8, behind as many pushes as it takes to have the values there; it could go on to 9 or, by a jump, to 12.
func TestP602EachInstruction(t *testing.T) {
	l := []int{11, 12, 13}
	for _, x := range []stepTry{
		{"push", push(-5), []int{3}, l, []int{3, -5}, l, 9},
		{"push on nothing", push(math.MaxInt), nil, l, []int{math.MaxInt}, l, 9},
		{"pop", pop, []int{3, 4}, l, []int{3}, l, 9},
		{"pop the only one", pop, []int{3}, l, nil, l, 9},
		{"dup", dup, []int{3, 4}, l, []int{3, 4, 4}, l, 9},
		{"swap", swap, []int{1, 3, 4}, l, []int{1, 4, 3}, l, 9},
		{"load 0", load(0), []int{3}, l, []int{3, 11}, l, 9},
		{"load 2", load(2), []int{3}, l, []int{3, 13}, l, 9},
		{"store 0", store(0), []int{3, 4}, l, []int{3}, []int{4, 12, 13}, 9},
		{"store 2", store(2), []int{3, 4}, l, []int{3}, []int{11, 12, 4}, 9},
		{"jump on", jump(12), []int{3, 4}, l, []int{3, 4}, l, 12},
		{"jump to the next", jump(9), []int{3, 4}, l, []int{3, 4}, l, 9},
		{"jump to itself", jump(8), []int{3, 4}, l, []int{3, 4}, l, 8},
		{"zero of 0", zero(12), []int{3, 0}, l, []int{3}, l, 12},
		{"zero of 1", zero(12), []int{0, 1}, l, []int{0}, l, 9},
		{"zero of -1", zero(12), []int{0, -1}, l, []int{0}, l, 9},
		{"zero of the least int", zero(12), []int{0, math.MinInt}, l, []int{0}, l, 9},
		{"zero of 0 to the next", zero(9), []int{3, 0}, l, []int{3}, l, 9},
		{"zero of 1 to the next", zero(9), []int{3, 1}, l, []int{3}, l, 9},
	} {
		j, s := standing(t, x.i, x.stack)
		s.Locals = x.locals
		after := api.State{Pc: x.pc, Fuel: s.Fuel + 1, Stack: x.want, Locals: x.wantLocals, Kids: s.Kids}
		wantRun(t, x.name, j, s, 0, 1, after, api.Event{Steps: 1})
	}
}

// standing is a job with i at Pc 8, and a state there with that stack: ahead of i as many pushes as it takes, behind it what ends the task either way, at Pc 12 too.
func standing(t *testing.T, i api.Ins, stack []int) (api.Job, api.State) {
	t.Helper()
	head := []api.Ins{jump(8 - len(stack))}
	for len(head) < 8 {
		head = append(head, push(0))
	}
	j := jobOf(append(head, i, push(0), ret, jump(11), push(0), ret)...)
	s := api.State{Pc: 8, Fuel: 5, Stack: stack, Locals: []int{1, 2, 3}, Kids: 3}
	if !task.May(j, s) {
		t.Fatalf("the test is wrong: %v, %v", i, stack)
	}
	return j, s
}

func TestP602Reckon(t *testing.T) {
	const least, most = math.MinInt, math.MaxInt
	for _, x := range []struct{ op, left, right, want int }{
		{api.Add, 7, -2, 5}, {api.Add, most, 1, least}, {api.Add, least, -1, most}, {api.Add, least, least, 0},
		{api.Sub, 7, -2, 9}, {api.Sub, -2, 7, -9}, {api.Sub, least, 1, most}, {api.Sub, most, -1, least}, {api.Sub, 0, least, least},
		{api.Mul, 7, -2, -14}, {api.Mul, most, 2, -2}, {api.Mul, least, -1, least}, {api.Mul, most, most, 1}, {api.Mul, 1 << 32, 1 << 32, 0},
		{api.Div, 7, 2, 3}, {api.Div, -7, 2, -3}, {api.Div, 7, -2, -3}, {api.Div, -7, -2, 3}, {api.Div, 2, 7, 0}, {api.Div, 0, 7, 0}, {api.Div, least, -1, least}, {api.Div, most, -1, -most},
		{api.Mod, 7, 2, 1}, {api.Mod, -7, 2, -1}, {api.Mod, 7, -2, 1}, {api.Mod, -7, -2, -1}, {api.Mod, 2, 7, 2}, {api.Mod, 0, 7, 0}, {api.Mod, least, -1, 0}, {api.Mod, least, 10, -8},
		{api.Lt, 1, 2, 1}, {api.Lt, 2, 1, 0}, {api.Lt, 2, 2, 0}, {api.Lt, least, most, 1}, {api.Lt, most, least, 0}, {api.Lt, -1, 0, 1},
		{api.Eq, 2, 2, 1}, {api.Eq, 1, 2, 0}, {api.Eq, 2, 1, 0}, {api.Eq, least, least, 1}, {api.Eq, most, -1, 0}, {api.Eq, 0, 1 << 32, 0},
	} {
		j, s := standing(t, api.Ins{Op: x.op}, []int{4, x.left, x.right})
		after := s
		after.Pc, after.Fuel, after.Stack = 9, 6, []int{4, x.want}
		wantRun(t, fmt.Sprint(x), j, s, 0, 1, after, api.Event{Steps: 1})
	}
	for _, i := range []api.Ins{div, mod} {
		for _, left := range []int{0, 1, -1, least, most} {
			j, s := standing(t, i, []int{4, left, 0})
			after := s
			after.Fuel = 6
			wantRun(t, fmt.Sprint(i, " of ", left, " by 0"), j, s, 0, 9, after, ended(api.ErrDiv, 1))
		}
	}
}

func TestP602Spawn(t *testing.T) {
	for _, x := range []struct {
		f           int
		stack       []int
		args, after []int
	}{
		{1, nil, nil, []int{3}},
		{1, []int{5}, nil, []int{5, 3}},
		{2, []int{5}, []int{5}, []int{3}},
		{2, []int{5, 6}, []int{6}, []int{5, 3}},
		{3, []int{5, 6, 7, 8}, []int{6, 7, 8}, []int{5, 3}},
	} {
		for _, deep := range []int{0, 1, api.MaxDeep - 1, -1, math.MinInt} {
			j, s := standing(t, spawn(x.f), x.stack)
			after := s
			after.Pc, after.Fuel, after.Stack, after.Kids = 9, 6, x.after, 4
			e := api.Event{Kind: api.Spawned, Func: x.f, Args: x.args, Kid: 3, Steps: 1}
			wantRun(t, fmt.Sprint("spawn ", x.f, " at ", deep), j, s, deep, 9, after, e)
		}
	}
	j := jobOf(append(slices.Repeat([]api.Ins{load(0)}, api.MaxStack), spawn(4), ret)...)
	j.Fuel = 100
	s := api.State{Pc: api.MaxStack, Locals: make([]int, 3)}
	for k := range api.MaxStack {
		s.Stack = append(s.Stack, k)
	}
	after := s
	after.Pc, after.Fuel, after.Kids, after.Stack = s.Pc+1, 1, 1, append(slices.Clone(s.Stack[:24]), 0)
	wantRun(t, "spawn of most arguments", j, s, 0, 9, after, api.Event{Kind: api.Spawned, Func: 4, Args: []int{24, 25, 26, 27, 28, 29, 30, 31}, Steps: 1})
}

func TestP602SpawnErrors(t *testing.T) {
	j, s := standing(t, spawn(2), []int{5, 6})
	after := s
	after.Fuel = 6
	for _, deep := range []int{api.MaxDeep, api.MaxDeep + 1, math.MaxInt} {
		wantRun(t, fmt.Sprint("deep ", deep), j, s, deep, 9, after, ended(api.ErrDeep, 1))
	}
	s.Kids, after.Kids = api.MaxKids, api.MaxKids
	wantRun(t, "too many kids", j, s, 0, 9, after, ended(api.ErrKids, 1))
	wantRun(t, "too many kids, too deep", j, s, api.MaxDeep, 9, after, ended(api.ErrDeep, 1))
	s.Kids = api.MaxKids - 1
	after.Pc, after.Stack = 9, []int{5, api.MaxKids - 1}
	wantRun(t, "the last kid", j, s, api.MaxDeep-1, 9, after, api.Event{Kind: api.Spawned, Func: 2, Args: []int{6}, Kid: api.MaxKids - 1, Steps: 1})
}

// A task as deep as can be goes on as any other, as long as it spawns nothing.
func TestP602DeepWithoutSpawn(t *testing.T) {
	j := jobOf(push(5), ret)
	s := api.State{Locals: make([]int, 3)}
	wantRun(t, "deep", j, s, math.MaxInt, 9, api.State{Pc: 1, Fuel: 2, Stack: []int{5}, Locals: s.Locals}, api.Event{Kind: api.Ended, Steps: 2, Result: api.Result{Value: 5}})
}

func TestP602Await(t *testing.T) {
	for _, handle := range []int{0, 1, 2} {
		j, s := standing(t, await, []int{5, handle})
		after := s
		after.Fuel, after.Waits = 6, true
		wantRun(t, fmt.Sprint("handle ", handle), j, s, 0, 9, after, api.Event{Kind: api.Waiting, Kid: handle, Steps: 1})
		for _, steps := range []int{0, 1, 9, -1, math.MinInt, math.MaxInt} {
			wantRun(t, fmt.Sprint("it waits, by ", steps), j, after, 0, steps, after, api.Event{Kind: api.Waiting, Kid: handle})
		}
		after.Fuel = fuel
		wantRun(t, "it waits, all Fuel used", j, after, 0, 9, after, api.Event{Kind: api.Waiting, Kid: handle})
	}
	for _, handle := range []int{-1, 3, 4, 1 << 32, math.MinInt, math.MaxInt} {
		j, s := standing(t, await, []int{5, handle})
		after := s
		after.Fuel = 6
		wantRun(t, fmt.Sprint("handle ", handle), j, s, 0, 9, after, ended(api.ErrHandle, 1))
	}
	j, s := standing(t, await, []int{0})
	s.Kids = 0
	after := s
	after.Fuel = 6
	wantRun(t, "no kids", j, s, 0, 9, after, ended(api.ErrHandle, 1))
}

func TestP602Ends(t *testing.T) {
	for _, v := range []int{0, 5, -5, math.MinInt, math.MaxInt} {
		j, s := standing(t, ret, []int{3, v})
		after := s
		after.Fuel = 6
		wantRun(t, "ret", j, s, 0, 9, after, api.Event{Kind: api.Ended, Steps: 1, Result: api.Result{Value: v}})
		j, _ = standing(t, fail, []int{3, v})
		wantRun(t, "fail", j, s, 0, 9, after, api.Event{Kind: api.Ended, Steps: 1, Result: api.Result{Err: api.ErrFail, Value: v}})
	}
}

func TestP602Fuel(t *testing.T) {
	for _, x := range []struct {
		i     api.Ins
		stack []int
	}{
		{push(1), nil}, {jump(8), nil}, {ret, []int{3}}, {fail, []int{3}}, {await, []int{2}}, {await, []int{9}}, {div, []int{1, 0}}, {spawn(2), []int{4}},
	} {
		j, s := standing(t, x.i, x.stack)
		s.Fuel = fuel
		for _, steps := range []int{1, 9, math.MaxInt} {
			wantRun(t, fmt.Sprint("no Fuel: ", x.i), j, s, api.MaxDeep, steps, s, ended(api.ErrFuel, 0))
		}
		wantRun(t, fmt.Sprint("no Fuel, no steps: ", x.i), j, s, api.MaxDeep, 0, s, api.Event{})
		wantRun(t, fmt.Sprint("no Fuel, less than no steps: ", x.i), j, s, api.MaxDeep, -1, s, api.Event{})
	}
	j := jobOf(jump(0))
	s := api.State{Locals: []int{1, 2, 3}, Fuel: fuel - 2}
	after := s
	after.Fuel = fuel
	wantRun(t, "the last Fuel", j, s, 0, 2, after, api.Event{Steps: 2})
	wantRun(t, "beyond the last Fuel", j, s, 0, 3, after, ended(api.ErrFuel, 2))
	j = jobOf(push(5), ret)
	j.Fuel = 2
	s.Fuel = 0
	wantRun(t, "just enough Fuel", j, s, 0, 9, api.State{Pc: 1, Fuel: 2, Stack: []int{5}, Locals: s.Locals}, api.Event{Kind: api.Ended, Steps: 2, Result: api.Result{Value: 5}})
	j.Fuel = 1
	wantRun(t, "too little Fuel", j, s, 0, 9, api.State{Pc: 1, Fuel: 1, Stack: []int{5}, Locals: s.Locals}, ended(api.ErrFuel, 1))
	j = jobOf(jump(0))
	j.Fuel = api.MaxFuel
	wantRun(t, "most Fuel", j, s, 0, math.MaxInt, api.State{Fuel: api.MaxFuel, Locals: s.Locals}, ended(api.ErrFuel, api.MaxFuel))
}

func TestP602Steps(t *testing.T) {
	j := jobOf(push(5), push(6), add, dup, ret)
	s := api.State{Locals: []int{1, 2, 3}}
	stacks := [][]int{nil, {5}, {5, 6}, {11}, {11, 11}}
	for n, stack := range stacks {
		wantRun(t, fmt.Sprint(n, " steps"), j, s, 0, n, api.State{Pc: n, Fuel: n, Stack: stack, Locals: s.Locals}, api.Event{Steps: n})
	}
	for _, n := range []int{5, 6, math.MaxInt} {
		wantRun(t, fmt.Sprint(n, " steps"), j, s, 0, n, api.State{Pc: 4, Fuel: 5, Stack: stacks[4], Locals: s.Locals}, api.Event{Kind: api.Ended, Steps: 5, Result: api.Result{Value: 11}})
	}
	for _, n := range []int{-1, -5, math.MinInt} {
		wantRun(t, fmt.Sprint(n, " steps"), j, s, 0, n, s, api.Event{})
	}
}

func TestP602OtherFunctions(t *testing.T) {
	j := jobOf(load(0), ret)
	for f, n := range []int{0, 1, 3, api.MaxArgs} {
		s, _ := task.Begin(j, f+1, make([]int, n)...)
		_, e := task.Run(j, s, 0, 9)
		if want := (api.Event{Kind: api.Ended, Steps: 2, Result: api.Result{Value: n}}); !sameEvent(e, want) {
			t.Errorf("P602: function %d: %+v, not %+v", f+1, e, want)
		}
	}
}

func TestP602WrongStates(t *testing.T) {
	j, s := waiter()
	for name, turn := range turns() {
		x := s
		turn(&x)
		for _, steps := range []int{9, 0, -1} {
			wantRun(t, name, j, x, 0, steps, x, ended(api.ErrArg, 0))
		}
		wantResume(t, name, j, x, api.Result{Value: 4}, x, ended(api.ErrArg, 0))
		wantResume(t, name, j, x, api.Result{Err: api.ErrDiv, Value: 4}, x, ended(api.ErrArg, 0))
	}
	for e, j := range wrongJobs() {
		x := api.State{Locals: make([]int, 3)}
		wantRun(t, fmt.Sprint("a job with error ", e), j, x, 0, 9, x, ended(api.ErrArg, 0))
		wantResume(t, fmt.Sprint("a job with error ", e), j, s, api.Result{}, s, ended(api.ErrArg, 0))
	}
}

func TestP603Resume(t *testing.T) {
	j, s := waiter()
	for _, v := range []int{0, 40, -1, math.MinInt, math.MaxInt} {
		after := s
		after.Pc, after.Stack, after.Waits = 5, []int{9, v}, false
		wantResume(t, fmt.Sprint("value ", v), j, s, api.Result{Value: v}, after, api.Event{})
		if !task.May(j, after) {
			t.Errorf("P603: it can't be: %+v", after)
		}
	}
	full := s
	full.Fuel = fuel
	after := full
	after.Pc, after.Stack, after.Waits = 5, []int{9, 40}, false
	wantResume(t, "all Fuel used", j, full, api.Result{Value: 40}, after, api.Event{})
	wantRun(t, "all Fuel used", j, after, 0, 9, after, ended(api.ErrFuel, 0))
}

func TestP603ResumeWithAnError(t *testing.T) {
	j, s := waiter()
	for _, e := range []api.Errno{api.ErrDiv, api.ErrFuel, api.ErrFail, api.ErrArg, api.ErrTasks, 99, -1} {
		for _, v := range []int{0, 40, math.MinInt} {
			r := api.Result{Err: e, Value: v}
			wantResume(t, fmt.Sprint(r), j, s, r, s, api.Event{Kind: api.Ended, Result: r})
		}
	}
}

func TestP603WhatDoesNotWait(t *testing.T) {
	j, s := waiter()
	s.Waits = false
	for _, r := range []api.Result{{}, {Value: 4}, {Err: api.ErrFail, Value: 4}} {
		wantResume(t, "at the await", j, s, r, s, ended(api.ErrArg, 0))
		x := api.State{Locals: make([]int, 3), Kids: 2}
		wantResume(t, "at the start", j, x, r, x, ended(api.ErrArg, 0))
		x = api.State{Pc: 5, Stack: []int{9, 1}, Locals: make([]int, 3), Kids: 2}
		wantResume(t, "at the ret", j, x, r, x, ended(api.ErrArg, 0))
	}
}
