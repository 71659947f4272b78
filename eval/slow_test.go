package eval_test

import (
	"fmt"
	"math"
	"math/rand"
	"slices"
	"testing"

	"gleaner/api"
	"gleaner/check"
	"gleaner/eval"
	"gleaner/task"
)

// slow is a task of slowEval: all tasks go on side by side, a step each.
type slow struct {
	api.Entry
	state api.State
	ended bool
}

// slowEval says what a job means, as P901 words it, in another order than Eval: the last task goes on first, by one step, and who waits is passed over until the other one has ended.
func slowEval(j api.Job) ([]api.Entry, api.Errno) {
	if _, _, e := check.Check(j); e != api.OK {
		return nil, e
	}
	all := map[api.ID]*slow{}
	add := func(id api.ID, f int, args []int) {
		s, _ := task.Begin(j, f, args...)
		all[id] = &slow{Entry: api.Entry{ID: id, Func: f, Args: args}, state: s}
	}
	add("", j.Main, j.Args)
	for going := true; going; {
		going = false
		for _, id := range slowNames(all) {
			x := all[id]
			if x.ended {
				continue
			}
			going = true
			if e := x.goOn(j, all); e.Kind == api.Spawned {
				add(id+api.ID(rune(e.Kid)), e.Func, e.Args)
			}
			if len(all) > j.Tasks {
				return nil, api.ErrTasks
			}
		}
	}
	var out []api.Entry
	for _, id := range slowNames(all) {
		out = slices.Insert(out, 0, all[id].Entry)
	}
	return out, api.OK
}

// slowNames are the names of all, falling.
func slowNames(all map[api.ID]*slow) []api.ID {
	var out []api.ID
	for id := range all {
		out = append(out, id)
	}
	slices.Sort(out)
	slices.Reverse(out)
	return out
}

func (x *slow) goOn(j api.Job, all map[api.ID]*slow) api.Event {
	s, e := task.Run(j, x.state, len(x.ID), 1)
	x.Steps += e.Steps
	if e.Kind == api.Spawned {
		x.Kids++
	}
	if e.Kind == api.Waiting {
		kid := all[x.ID+api.ID(rune(e.Kid))]
		if kid.ended {
			x.Awaits = append(x.Awaits, e.Kid)
			s, e = task.Resume(j, s, kid.Result)
		}
	}
	x.state = s
	if e.Kind == api.Ended {
		x.Result, x.ended = e.Result, true
	}
	return e
}

// sameEntry tells whether two entries are alike; nil and an empty list mean the same.
func sameEntry(a, b api.Entry) bool {
	return a.ID == b.ID && a.Func == b.Func && slices.Equal(a.Args, b.Args) && a.Result == b.Result &&
		a.Steps == b.Steps && a.Kids == b.Kids && slices.Equal(a.Awaits, b.Awaits)
}

func sameEntries(a, b []api.Entry) bool {
	return slices.EqualFunc(a, b, sameEntry)
}

// writer writes code that check takes, at random.
type writer struct {
	number func(n int) int
	funcs  []api.Func
	self   int // which function it writes
	code   []api.Ins
	depth  int
	kids   int // how many spawns stand in the code
}

func (w *writer) put(op, n, pops, pushes int) {
	w.code = append(w.code, api.Ins{Op: op, N: n})
	w.depth += pushes - pops
}

// want sees to it that at least so many values are there.
func (w *writer) want(n int) {
	for w.depth < n {
		w.value()
	}
}

// value writes one value more.
func (w *writer) value() {
	if locals := w.funcs[w.self].Locals; locals > 0 && w.number(2) == 0 {
		w.put(api.Load, w.number(locals), 0, 1)
		return
	}
	values := []int{0, 1, 2, 3, -1, 15, 16, math.MinInt, math.MaxInt}
	w.put(api.Push, values[w.number(len(values))], 0, 1)
}

// spawn writes a spawn, mostly of a later function, so that not all jobs have too many tasks.
func (w *writer) spawn() {
	f := w.number(len(w.funcs))
	if f <= w.self && w.number(12) > 0 {
		f = len(w.funcs) - 1
	}
	if f <= w.self && w.number(12) > 0 {
		w.value()
		return
	}
	args := w.funcs[f].Args
	w.want(args)
	w.put(api.Spawn, f, args, 1)
	w.kids++
}

// await writes an await, mostly of a spawn that there is.
func (w *writer) await() {
	switch {
	case w.kids > 0 && w.number(12) > 0:
		w.put(api.Push, w.number(w.kids), 0, 1)
	case w.number(8) > 0:
		w.value()
		return
	}
	w.want(1)
	w.put(api.Await, 0, 1, 1)
}

// some writes one thing.
func (w *writer) some() {
	switch n := w.number(20); {
	case n < 8:
		w.spawn()
	case n < 13:
		w.await()
	case n < 16:
		w.want(2)
		w.put(api.Add+w.number(7), 0, 2, 1)
	case n < 18:
		w.fork()
	case n == 18 && w.number(5) == 0:
		for range 17 {
			w.spawn()
			w.put(api.Pop, 0, 1, 0)
		}
	default:
		w.value()
	}
	for w.depth > 12 {
		w.put(api.Pop, 0, 1, 0)
	}
}

// fork writes a way of which a part is passed over, or gone again and again.
func (w *writer) fork() {
	w.want(1)
	at, depth := len(w.code), w.depth
	w.put(api.Zero, 0, 1, 0)
	w.value()
	w.await()
	w.put(api.Pop, 0, 1, 0)
	for w.depth > depth-1 {
		w.put(api.Pop, 0, 1, 0)
	}
	if w.number(6) == 0 {
		w.value()
		w.put(api.Jump, at, 1, 0)
	}
	w.code[at].N = len(w.code)
}

// someJob is a job that check takes.
func someJob(t testing.TB, number func(n int) int) api.Job {
	t.Helper()
	j := api.Job{Fuel: 1 + number(50), Tasks: 1 + number(60)}
	for k := range 1 + number(4) {
		args := number(3)
		j.Funcs = append(j.Funcs, api.Func{Name: fmt.Sprintf("f%d", k), Args: args, Locals: args + number(2)})
	}
	for k := range j.Funcs {
		w := writer{number: number, funcs: j.Funcs, self: k}
		for range number(9) + number(2)*number(20) {
			w.some()
		}
		w.want(1)
		w.put([]int{api.Ret, api.Ret, api.Ret, api.Ret, api.Ret, api.Fail}[number(6)], 0, 1, 0)
		j.Funcs[k].Code = w.code
	}
	if number(3) > 0 {
		j.Main = number(len(j.Funcs))
	}
	for range j.Funcs[j.Main].Args {
		j.Args = append(j.Args, number(5)-2)
	}
	if f, i, e := check.Check(j); e != api.OK {
		t.Fatalf("the test is wrong: %d, %d, %d: %+v", f, i, e, j)
	}
	return j
}

// sameAsSlow holds Eval against slowEval.
func sameAsSlow(t *testing.T, j api.Job) ([]api.Entry, api.Errno) {
	t.Helper()
	want, is := slowEval(j)
	l, e := eval.Eval(j)
	if e != is || !sameEntries(l, want) {
		t.Fatalf("P901: error %d, not %d; %+v, not %+v: of %+v", e, is, l, want, j)
	}
	return l, e
}

func TestP901Slow(t *testing.T) {
	r := rand.New(rand.NewSource(901))
	met := map[string]int{}
	for range 6000 {
		l, e := sameAsSlow(t, someJob(t, r.Intn))
		met[fmt.Sprint("job ", e)]++
		met["grandchildren"] += countOf(l, func(x api.Entry) bool { return len(x.ID) > 1 })
		met["two awaits"] += countOf(l, func(x api.Entry) bool { return len(x.Awaits) > 1 })
		met["a later one first"] += countOf(l, func(x api.Entry) bool { return !slices.IsSorted(x.Awaits) })
		met["another's error"] += countOf(l, func(x api.Entry) bool {
			return x.Result.Err != api.OK && len(x.Awaits) > 0 && l[slices.IndexFunc(l, func(y api.Entry) bool {
				return y.ID == x.ID+api.ID(rune(x.Awaits[len(x.Awaits)-1]))
			})].Result == x.Result
		})
		for _, x := range l {
			met[fmt.Sprint("task ", x.Result.Err)]++
		}
	}
	for _, kind := range []string{"job 0", "job 30", "grandchildren", "two awaits", "a later one first", "another's error", "task 0", "task 20", "task 21", "task 22", "task 23", "task 24", "task 25"} {
		if met[kind] < 10 {
			t.Errorf("the jobs are of too few kinds: %s: %v", kind, met)
		}
	}
}

func countOf(l []api.Entry, is func(x api.Entry) bool) int {
	n := 0
	for _, x := range l {
		if is(x) {
			n++
		}
	}
	return n
}

func FuzzP901(f *testing.F) {
	f.Add([]byte{})
	f.Add([]byte("2468135792468\x10\x11\x12\x13\x14\x15\x16\x17\x18\x19"))
	f.Fuzz(func(t *testing.T, b []byte) {
		at := 0
		sameAsSlow(t, someJob(t, func(n int) int {
			if at+1 >= len(b) {
				at++
				return at % n
			}
			x := int(b[at])<<8 | int(b[at+1])
			at += 2
			return x % n
		}))
	})
}
