package task_test

import (
	"fmt"
	"math"
	"math/rand"
	"slices"
	"sync"
	"testing"

	"gleaner/api"
	"gleaner/check"
	"gleaner/task"
)

// copyOf is s, with lists of its own.
func copyOf(s api.State) api.State {
	s.Stack, s.Locals = slices.Clone(s.Stack), slices.Clone(s.Locals)
	return s
}

// slowMay says whether a state can be, as P601 words it.
func slowMay(j api.Job, s api.State) bool {
	if _, _, e := check.Check(j); e != api.OK {
		return false
	}
	if s.Func < 0 || s.Func >= len(j.Funcs) {
		return false
	}
	f := j.Funcs[s.Func]
	if s.Pc < 0 || s.Pc >= len(f.Code) {
		return false
	}
	if d := check.Depths(j, s.Func)[s.Pc]; d < 0 || d != len(s.Stack) {
		return false
	}
	if len(s.Locals) != f.Locals || s.Kids < 0 || s.Kids > 16 || s.Fuel < 0 || s.Fuel > j.Fuel {
		return false
	}
	if !s.Waits {
		return true
	}
	if f.Code[s.Pc].Op != api.Await {
		return false
	}
	handle := s.Stack[len(s.Stack)-1]
	return handle >= 0 && handle <= s.Kids-1
}

// slowRun does what P602 says, word by word: all that an instruction does is done to a copy, which counts only if the task does not end by it.
func slowRun(j api.Job, s api.State, deep, steps int) (api.State, api.Event) {
	if !slowMay(j, s) {
		return s, ended(api.ErrArg, 0)
	}
	if s.Waits {
		return s, api.Event{Kind: api.Waiting, Kid: s.Stack[len(s.Stack)-1]}
	}
	for done := 0; done < steps; done++ {
		if s.Fuel == j.Fuel {
			return s, ended(api.ErrFuel, done)
		}
		s.Fuel++
		next, e := slowStep(j, copyOf(s), deep)
		e.Steps = done + 1
		if e.Kind == api.Ended {
			return s, e
		}
		if s = next; e.Kind != api.More {
			return s, e
		}
	}
	return s, api.Event{Steps: max(0, steps)}
}

func slowStep(j api.Job, s api.State, deep int) (api.State, api.Event) {
	i := j.Funcs[s.Func].Code[s.Pc]
	off := func() int {
		v := s.Stack[len(s.Stack)-1]
		s.Stack = s.Stack[:len(s.Stack)-1]
		return v
	}
	on := func(v int) { s.Stack = append(s.Stack, v) }
	truth := map[bool]int{true: 1}
	s.Pc++
	var a, b int
	if i.Op == api.Swap || i.Op >= api.Add && i.Op <= api.Eq {
		b = off()
		a = off()
	}
	switch i.Op {
	case api.Push:
		on(i.N)
	case api.Pop:
		off()
	case api.Dup:
		a = off()
		on(a)
		on(a)
	case api.Swap:
		on(b)
		on(a)
	case api.Load:
		on(s.Locals[i.N])
	case api.Store:
		s.Locals[i.N] = off()
	case api.Add:
		on(a + b)
	case api.Sub:
		on(a - b)
	case api.Mul:
		on(a * b)
	case api.Div, api.Mod:
		if b == 0 {
			return s, ended(api.ErrDiv, 0)
		}
		on(map[int]int{api.Div: a / b, api.Mod: a % b}[i.Op])
	case api.Lt:
		on(truth[a < b])
	case api.Eq:
		on(truth[a == b])
	case api.Jump:
		s.Pc = i.N
	case api.Zero:
		if off() == 0 {
			s.Pc = i.N
		}
	case api.Spawn:
		if deep >= 12 {
			return s, ended(api.ErrDeep, 0)
		}
		if s.Kids == 16 {
			return s, ended(api.ErrKids, 0)
		}
		var args []int
		for range j.Funcs[i.N].Args {
			args = append([]int{off()}, args...)
		}
		on(s.Kids)
		s.Kids++
		return s, api.Event{Kind: api.Spawned, Func: i.N, Args: args, Kid: s.Kids - 1}
	case api.Await:
		a = off()
		if a < 0 || a >= s.Kids {
			return s, ended(api.ErrHandle, 0)
		}
		on(a)
		s.Pc--
		s.Waits = true
		return s, api.Event{Kind: api.Waiting, Kid: a}
	case api.Ret:
		return s, api.Event{Kind: api.Ended, Result: api.Result{Value: off()}}
	case api.Fail:
		return s, api.Event{Kind: api.Ended, Result: api.Result{Err: api.ErrFail, Value: off()}}
	}
	return s, api.Event{}
}

// slowResume does what P603 says.
func slowResume(j api.Job, s api.State, r api.Result) (api.State, api.Event) {
	if !slowMay(j, s) || !s.Waits {
		return s, ended(api.ErrArg, 0)
	}
	if r.Err != 0 {
		return s, api.Event{Kind: api.Ended, Result: r}
	}
	s = copyOf(s)
	s.Stack[len(s.Stack)-1] = r.Value
	s.Pc++
	s.Waits = false
	return s, api.Event{}
}

// writer writes a function that check takes, out of numbers.
type writer struct {
	number func(n int) int // one from 0 to n - 1
	funcs  []api.Func      // the job's
	locals int
	code   []api.Ins
	depth  int
}

func (w *writer) put(op, n, pops, pushes int) {
	w.code = append(w.code, api.Ins{Op: op, N: n})
	w.depth += pushes - pops
}

// level brings the stack to a depth.
func (w *writer) level(depth int) {
	for w.depth > depth {
		w.put(api.Pop, 0, 1, 0)
	}
	for w.depth < depth {
		w.put(api.Push, w.number(3), 0, 1)
	}
}

// want sees to it that so many values are there.
func (w *writer) want(n int) {
	w.level(max(n, w.depth))
}

// some writes one thing: an instruction, a way that parts, a way back.
func (w *writer) some(within int) {
	switch n := w.number(24); {
	case n < 3:
		values := []int{0, 1, -1, 2, 3, 15, 16, math.MinInt, math.MaxInt, 1 << 31}
		w.put(api.Push, values[w.number(len(values))], 0, 1)
	case n < 5 && w.locals > 0:
		w.put(api.Load, w.number(w.locals), 0, 1)
	case n < 7 && w.locals > 0:
		w.want(1)
		w.put(api.Store, w.number(w.locals), 1, 0)
	case n < 14:
		w.want(2)
		w.put(api.Add+n%7, 0, 2, 1)
	case n < 17:
		f := w.number(len(w.funcs))
		w.want(w.funcs[f].Args)
		w.put(api.Spawn, f, w.funcs[f].Args, 1)
	case n < 19:
		w.want(1)
		w.put(api.Await, 0, 1, 1)
	case n == 19:
		w.want(1)
		w.put(api.Dup, 0, 1, 2)
	case n == 20:
		w.want(2)
		w.put(api.Swap, 0, 2, 2)
	case n == 21 && within > 0:
		w.fork(within - 1)
	case n == 22 && within > 0:
		w.back(within - 1)
	}
	if w.depth > 12 {
		w.level(4)
	}
}

func (w *writer) block(within int) {
	depth := w.depth
	for range 1 + w.number(4) {
		w.some(within)
	}
	w.level(depth)
}

// fork writes two ways, of which one is gone.
func (w *writer) fork(within int) {
	w.want(1)
	at := len(w.code)
	w.put(api.Zero, 0, 1, 0)
	w.block(within)
	end := len(w.code)
	w.put(api.Jump, 0, 0, 0)
	w.code[at].N = len(w.code)
	w.block(within)
	w.code[end].N = len(w.code)
}

// back writes a way that is gone again and again.
func (w *writer) back(within int) {
	at := len(w.code)
	w.block(within)
	w.put(api.Push, w.number(2), 0, 1)
	w.put(api.Zero, at, 1, 0)
}

// someJob is a job that check takes.
func someJob(t testing.TB, number func(n int) int) api.Job {
	t.Helper()
	j := api.Job{Fuel: 1 + number(60), Tasks: 1 + number(500)}
	for k := range 1 + number(3) {
		args := number(4)
		j.Funcs = append(j.Funcs, api.Func{Name: fmt.Sprintf("f%d", k), Args: args, Locals: args + number(3)})
	}
	for k, f := range j.Funcs {
		w := writer{number: number, funcs: j.Funcs, locals: f.Locals}
		for range 1 + number(12) {
			w.some(2)
		}
		w.want(1)
		w.put([]int{api.Ret, api.Ret, api.Fail}[number(3)], 0, 1, 0)
		j.Funcs[k].Code = w.code
	}
	j.Main = number(len(j.Funcs))
	j.Args = make([]int, j.Funcs[j.Main].Args)
	if f, i, e := check.Check(j); e != api.OK {
		t.Fatalf("the test is wrong: %d, %d, %d: %+v", f, i, e, j)
	}
	return j
}

// someStart is the first state of a task of j, its Kids and Fuel turned now and then.
func someStart(t testing.TB, j api.Job, number func(n int) int) api.State {
	t.Helper()
	f := number(len(j.Funcs))
	args := make([]int, j.Funcs[f].Args)
	for k := range args {
		args[k] = number(5) - 2
	}
	s, e := task.Begin(j, f, args...)
	if e != api.OK {
		t.Fatalf("P601: error %d: %+v", e, j)
	}
	if number(4) == 0 {
		s.Kids, s.Fuel = []int{number(17), api.MaxKids - 1, api.MaxKids}[number(3)], number(j.Fuel+1)
	}
	return s
}

// answers tells what the kids of a task end with; it hangs on the kid alone.
func answers(seed int) func(kid int) api.Result {
	return func(kid int) api.Result {
		if n := (kid + 1) * (seed + 3) % 11; n > 1 {
			return api.Result{Value: n - 4}
		}
		return api.Result{Err: api.ErrFail, Value: kid}
	}
}

// played is what a task did: its events other than More, the steps up to each of them, and where it stood at last.
type played struct {
	events []api.Event
	last   api.State
}

// play brings a task to its end, in runs of as many steps as size tells.
func play(j api.Job, s api.State, deep int, size func() int, answer func(kid int) api.Result) played {
	var p played
	steps := 0
	for {
		after, e := task.Run(j, s, deep, size())
		s, steps = after, steps+e.Steps
		if e.Kind == api.More {
			continue
		}
		e.Steps = steps
		p.events, p.last = append(p.events, e), s
		if e.Kind == api.Ended {
			return p
		}
		if e.Kind == api.Waiting {
			if s, e = task.Resume(j, s, answer(e.Kid)); e.Kind == api.Ended {
				p.events, p.last = append(p.events, e), s
				return p
			}
		}
	}
}

func TestP604SmallRuns(t *testing.T) {
	r := rand.New(rand.NewSource(604))
	kinds := map[string]int{}
	for k := range 3000 {
		j := someJob(t, r.Intn)
		s, deep := someStart(t, j, r.Intn), []int{0, 11, 12}[r.Intn(3)]
		want := play(j, s, deep, func() int { return 1 << 40 }, answers(k))
		for n, size := range []func() int{
			func() int { return 1 },
			func() int { return 2 },
			func() int { return r.Intn(4) - 1 },
			func() int { return r.Intn(20) },
		} {
			got := play(j, s, deep, size, answers(k))
			if !same(got.last, want.last) || !slices.EqualFunc(got.events, want.events, sameEvent) {
				t.Fatalf("P604: sizes %d: %+v, not %+v: of %+v in %+v", n, got, want, s, j)
			}
		}
		for _, e := range want.events {
			kinds[fmt.Sprint(e.Kind, " ", e.Result.Err)]++
		}
	}
	for _, kind := range []string{"1 0", "2 0", "3 0", "3 20", "3 21", "3 22", "3 23", "3 24", "3 25"} {
		if kinds[kind] < 20 {
			t.Errorf("the tasks that were played are of too few kinds: %v", kinds)
		}
	}
}

// spoilt is s, one thing of it turned.
func spoilt(s api.State, number func(n int) int) api.State {
	s = copyOf(s)
	odd := []int{-1, 0, 1, 2, 15, 16, 17, 60, 61, math.MinInt, math.MaxInt}[number(11)]
	switch number(8) {
	case 0:
		s.Func = odd
	case 1:
		s.Pc = odd
	case 2:
		s.Fuel = odd
	case 3:
		s.Kids = odd
	case 4:
		s.Waits = !s.Waits
	case 5:
		s.Stack = append(s.Stack, odd)
	case 6:
		s.Locals = append(s.Locals, odd)
	case 7:
		if len(s.Stack) > 0 {
			s.Stack[len(s.Stack)-1] = odd
		}
	}
	return s
}

// sameAsSlow holds May, Run and Resume of one state against the slow ones, and answers where it stands behind a Run.
func sameAsSlow(t *testing.T, j api.Job, s api.State, deep, steps int, r api.Result) (api.State, api.Event) {
	t.Helper()
	if got, want := task.May(j, s), slowMay(j, s); got != want {
		t.Fatalf("P601: %v, not %v: %+v in %+v", got, want, s, j)
	}
	a, e := task.Resume(j, s, r)
	if b, v := slowResume(j, s, r); !same(a, b) || !sameEvent(e, v) {
		t.Fatalf("P603: %+v, %+v, not %+v, %+v: %+v of %+v in %+v", a, e, b, v, r, s, j)
	}
	a, e = task.Run(j, s, deep, steps)
	b, v := slowRun(j, s, deep, steps)
	if !same(a, b) || !sameEvent(e, v) {
		t.Fatalf("P602: %+v, %+v, not %+v, %+v: %d steps of %+v at %d in %+v", a, e, b, v, steps, s, deep, j)
	}
	if task.May(j, s) && !task.May(j, a) {
		t.Fatalf("P602: it comes to a state that can't be: %+v of %+v in %+v", a, s, j)
	}
	if task.May(j, s) {
		sameKnown(t, j, s, deep, steps, r)
	}
	return a, e
}

// sameKnown holds the calls for states that are known to be against the slow ones.
func sameKnown(t *testing.T, j api.Job, s api.State, deep, steps int, r api.Result) {
	t.Helper()
	a, e := task.RunKnown(j, s, deep, steps)
	if b, v := slowRun(j, s, deep, steps); !same(a, b) || !sameEvent(e, v) {
		t.Fatalf("P602: known: %+v, %+v, not %+v, %+v: %d steps of %+v at %d in %+v", a, e, b, v, steps, s, deep, j)
	}
	if !s.Waits {
		return
	}
	a, e = task.ResumeKnown(j, s, r)
	if b, v := slowResume(j, s, r); !same(a, b) || !sameEvent(e, v) {
		t.Fatalf("P603: known: %+v, %+v, not %+v, %+v: %+v of %+v in %+v", a, e, b, v, r, s, j)
	}
}

func slowTask(t *testing.T, number func(n int) int) {
	t.Helper()
	j := someJob(t, number)
	s, deep := someStart(t, j, number), 10+number(4)
	for range 40 {
		r := api.Result{Value: number(9) - 4}
		if number(6) == 0 {
			r.Err = api.Errno(number(40))
		}
		if number(3) == 0 {
			sameAsSlow(t, j, spoilt(s, number), deep, number(9)-1, r)
		}
		after, e := sameAsSlow(t, j, s, deep, number(9)-1, r)
		if e.Kind == api.Ended {
			return
		}
		if s = after; e.Kind == api.Waiting {
			sameAsSlow(t, j, s, deep, number(9)-1, r)
			if s, e = task.Resume(j, s, r); e.Kind == api.Ended {
				return
			}
		}
	}
}

func TestP602Slow(t *testing.T) {
	r := rand.New(rand.NewSource(602))
	for range 4000 {
		slowTask(t, r.Intn)
	}
}

func FuzzP602(f *testing.F) {
	f.Add([]byte{})
	f.Add([]byte("2468135792468\x10\x11\x12\x13\x14\x15\x16\x17\x18\x19"))
	f.Fuzz(func(t *testing.T, b []byte) {
		at := 0
		slowTask(t, func(n int) int {
			if at+1 >= len(b) {
				return at % n
			}
			x := int(b[at])<<8 | int(b[at+1])
			at += 2
			return x % n
		})
	})
}

// roomy is a list with filled spare room.
func roomy[T any](l []T, spare ...T) []T {
	return append(slices.Clone(l), spare...)[:len(l)]
}

// roomyState is s with filled spare room in its lists.
func roomyState(s api.State) api.State {
	s.Stack, s.Locals = roomy(s.Stack, 71, 72), roomy(s.Locals, 73, 74)
	return s
}

// roomyJob is j with filled spare room in its lists.
func roomyJob(j api.Job) api.Job {
	j.Args = roomy(j.Args, 75, 76)
	j.Funcs = roomy(j.Funcs, api.Func{Name: "spare"})
	for k := range j.Funcs {
		j.Funcs[k].Code = roomy(j.Funcs[k].Code, fail, pop)
	}
	return j
}

// shown is all of a roomy job and state, the spare room too.
func shown(j api.Job, s api.State) string {
	out := fmt.Sprint(s, s.Stack[:len(s.Stack)+2], s.Locals[:len(s.Locals)+2], j.Main, j.Fuel, j.Tasks, j.Args[:len(j.Args)+2], j.Funcs[:len(j.Funcs)+1])
	for _, f := range j.Funcs {
		out += fmt.Sprint(f.Code[:len(f.Code)+2])
	}
	return out
}

func TestP604HandedInStays(t *testing.T) {
	r := rand.New(rand.NewSource(6041))
	for range 300 {
		j := roomyJob(someJob(t, r.Intn))
		s := roomyState(someStart(t, j, r.Intn))
		for range 30 {
			before := shown(j, s)
			after, e := task.Run(j, s, 0, 1+r.Intn(5))
			resumed, _ := task.Resume(j, s, api.Result{Value: 3})
			task.Resume(j, s, api.Result{Err: api.ErrFail})
			task.May(j, s)
			task.Run(j, spoilt(s, r.Intn), 0, 5)
			if now := shown(j, s); now != before {
				t.Fatalf("P604: what was handed in was changed: %s, not %s", now, before)
			}
			if s = roomyState(after); e.Kind == api.Waiting && e.Steps == 0 {
				s = roomyState(resumed)
			}
		}
	}
}

func TestP604ArgsStay(t *testing.T) {
	j := roomyJob(jobOf(load(0), store(1), push(5), store(0), load(0), ret))
	args := []int{7, 71, 72}
	s, _ := task.Begin(j, 0, args[:1]...)
	a, _ := task.Run(j, s, 0, 9)
	if !slices.Equal(args, []int{7, 71, 72}) || !slices.Equal(s.Locals, []int{7, 0, 0}) || !slices.Equal(a.Locals, []int{5, 7, 0}) {
		t.Errorf("P604: %v, %v, %v", args, s.Locals, a.Locals)
	}
	args[0] = 8
	if s.Locals[0] != 7 {
		t.Error("P604: the arguments were kept")
	}
}

// overwrite fills a list with its spare room.
func overwrite(lists ...[]int) {
	for _, l := range lists {
		for k := range l[:cap(l)] {
			l[:cap(l)][k] = 99
		}
	}
}

// apart tells whether a list keeps its items while others are written to, with their spare room.
func apart(l []int, others ...[]int) bool {
	was := slices.Clone(l)
	overwrite(others...)
	return slices.Equal(l, was)
}

func TestP604NewMemory(t *testing.T) {
	j := jobOf(push(1), push(2), push(3), push(4), push(5), spawn(3), await, ret)
	at := func(pc int, stack ...int) api.State {
		return roomyState(api.State{Pc: pc, Stack: stack, Locals: []int{1, 2, 3}, Kids: 1})
	}
	waits := func() api.State {
		s := at(6, 1, 2, 0)
		s.Waits = true
		return s
	}
	wrong := at(6, 1, 2, 0)
	wrong.Kids = -1
	for name, x := range map[string]struct {
		s   api.State
		run func(s api.State) (api.State, api.Event)
	}{
		"none done":           {at(2, 1, 2), func(s api.State) (api.State, api.Event) { return task.Run(j, s, 0, 0) }},
		"one done":            {at(2, 1, 2), func(s api.State) (api.State, api.Event) { return task.Run(j, s, 0, 1) }},
		"spawned":             {at(5, 1, 2, 3, 4, 5), func(s api.State) (api.State, api.Event) { return task.Run(j, s, 0, 9) }},
		"too deep":            {at(5, 1, 2, 3, 4, 5), func(s api.State) (api.State, api.Event) { return task.Run(j, s, 12, 9) }},
		"it waits":            {at(6, 1, 2, 0), func(s api.State) (api.State, api.Event) { return task.Run(j, s, 0, 9) }},
		"it waits already":    {waits(), func(s api.State) (api.State, api.Event) { return task.Run(j, s, 0, 9) }},
		"it ends":             {at(7, 1, 2, 0), func(s api.State) (api.State, api.Event) { return task.Run(j, s, 0, 9) }},
		"wrong":               {wrong, func(s api.State) (api.State, api.Event) { return task.Run(j, s, 0, 9) }},
		"resumed":             {waits(), func(s api.State) (api.State, api.Event) { return task.Resume(j, s, api.Result{Value: 4}) }},
		"resumed by an error": {waits(), func(s api.State) (api.State, api.Event) { return task.Resume(j, s, api.Result{Err: api.ErrDiv}) }},
		"resumed, wrong":      {wrong, func(s api.State) (api.State, api.Event) { return task.Resume(j, s, api.Result{}) }},
	} {
		a, e := x.run(copyOf(x.s))
		b, v := x.run(x.s)
		if !same(a, b) || !sameEvent(e, v) {
			t.Errorf("P604: %s: %+v, %+v, then %+v, %+v", name, a, e, b, v)
		}
		if !apart(b.Stack, a.Stack, a.Locals, e.Args) || !apart(b.Locals, x.s.Stack, x.s.Locals) {
			t.Errorf("P604: %s: two answers, or an answer and what was handed in, share memory", name)
		}
		if !apart(b.Stack, b.Locals) || !apart(b.Locals, v.Args) || !apart(v.Args, b.Stack) {
			t.Errorf("P604: %s: two lists of one answer share memory", name)
		}
	}
}

// The Args of a spawn keep what they are, wherever the task goes on to.
func TestP604ArgsOfASpawn(t *testing.T) {
	j := jobOf(push(1), push(2), push(3), spawn(3), pop, push(8), dup, dup, ret)
	s := api.State{Locals: make([]int, 3)}
	a, e := task.Run(j, s, 0, 9)
	overwrite(a.Stack)
	if !slices.Equal(e.Args, []int{1, 2, 3}) {
		t.Errorf("P604: the Args share memory with the stack: %v", e.Args)
	}
}

func TestP604ArgumentsAlone(t *testing.T) {
	r := rand.New(rand.NewSource(6042))
	var jobs []api.Job
	var starts []api.State
	var want []played
	long := func() int { return 7 }
	for k := range 100 {
		jobs = append(jobs, someJob(t, r.Intn))
		starts = append(starts, someStart(t, jobs[k], r.Intn))
		want = append(want, play(jobs[k], starts[k], 0, long, answers(k)))
	}
	var all sync.WaitGroup
	for range 8 {
		all.Go(func() {
			for k, j := range jobs {
				got := play(j, starts[k], 0, long, answers(k))
				if !same(got.last, want[k].last) || !slices.EqualFunc(got.events, want[k].events, sameEvent) {
					t.Errorf("P604: %+v, then %+v", want[k], got)
				}
			}
		})
	}
	all.Wait()
}
