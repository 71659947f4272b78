package eval_test

import (
	"fmt"
	"math"
	"math/rand"
	"slices"
	"strings"
	"sync"
	"testing"

	"gleaner/api"
	"gleaner/asm"
	"gleaner/check"
	"gleaner/eval"
)

// jobOf is a job of a text whose lines are parted by " / ", instructions without the blanks ahead.
func jobOf(t testing.TB, text string) api.Job {
	t.Helper()
	lines := strings.Split(text, " / ")
	for k, line := range lines {
		if word, _, _ := strings.Cut(line, " "); word != "job" && word != "main" && word != "func" {
			lines[k] = "  " + line
		}
	}
	j, at, e := asm.Read(strings.Join(lines, "\n") + "\nend\n")
	if _, _, x := check.Check(j); e != api.OK || x != api.OK {
		t.Fatalf("the test is wrong: %d, %d, %d: %s", at, e, x, text)
	}
	return j
}

// want asks that Eval of j answers these entries.
func want(t *testing.T, name string, j api.Job, l ...api.Entry) {
	t.Helper()
	got, e := eval.Eval(j)
	if e != api.OK || !sameEntries(got, l) {
		t.Errorf("P901: %s: error %d, %+v, not %+v", name, e, got, l)
	}
}

// refused asks that Eval of j answers that error alone.
func refused(t *testing.T, name string, j api.Job, want api.Errno) {
	t.Helper()
	if l, e := eval.Eval(j); e != want || len(l) != 0 {
		t.Errorf("P901: %s: error %d, not %d; %+v", name, e, want, l)
	}
}

func value(n int) api.Result {
	return api.Result{Value: n}
}

func TestP901Example(t *testing.T) {
	want(t, "the chapter's example", jobOf(t, "job 60 20 / main f / func f 0 0 / push 5 / ret"), api.Entry{Result: value(5), Steps: 2})
}

func TestP901First(t *testing.T) {
	want(t, "Main is not the first function, and has Args",
		jobOf(t, "job 9 1 / main g 7 -3 / func f 0 0 / push 5 / ret / func g 2 3 / load 0 / load 1 / sub / ret"),
		api.Entry{Func: 1, Args: []int{7, -3}, Result: value(10), Steps: 4})
	want(t, "locals behind the Args are 0",
		jobOf(t, "job 9 1 / main f 7 / func f 1 2 / load 1 / ret"),
		api.Entry{Args: []int{7}, Result: value(0), Steps: 2})
}

// Each spawn is a task, also one for which nobody waits; the one pushed last is the last argument.
func TestP901Spawns(t *testing.T) {
	want(t, "two spawns, of which one is waited for",
		jobOf(t, "job 60 20 / main f / func f 0 0 / push 8 / push 2 / spawn g / push 1 / push 4 / spawn g / await / ret / func g 2 2 / load 0 / load 1 / div / ret"),
		api.Entry{Result: value(0), Steps: 8, Kids: 2, Awaits: []int{1}},
		api.Entry{ID: "\x00", Func: 1, Args: []int{8, 2}, Result: value(4), Steps: 4},
		api.Entry{ID: "\x01", Func: 1, Args: []int{1, 4}, Result: value(0), Steps: 4})
	want(t, "a spawn of a task that nobody waits for, and of one that ended with an error",
		jobOf(t, "job 60 20 / main f / func f 0 0 / spawn g / ret / func g 0 0 / spawn h / spawn h / fail / func h 0 0 / push 3 / ret"),
		api.Entry{Result: value(0), Steps: 2, Kids: 1},
		api.Entry{ID: "\x00", Func: 1, Result: api.Result{Err: api.ErrFail, Value: 1}, Steps: 3, Kids: 2},
		api.Entry{ID: "\x00\x00", Func: 2, Result: value(3), Steps: 2},
		api.Entry{ID: "\x00\x01", Func: 2, Result: value(3), Steps: 2})
}

// Names rise as texts do: all that come of a task stand ahead of the next one that was spawned beside it.
func TestP901Order(t *testing.T) {
	again := " / load 0 / push 1 / sub / spawn f / pop"
	j := jobOf(t, "job 60 20 / main f 2 / func f 1 1 / load 0 / zero 17"+strings.Repeat(again, 3)+" / push 0 / ret")
	l := []api.Entry{{Args: []int{2}, Steps: 19, Kids: 3}}
	for _, id := range []api.ID{"\x00", "\x01", "\x02"} {
		l = append(l, api.Entry{ID: id, Args: []int{1}, Steps: 19, Kids: 3})
		for _, kid := range []api.ID{"\x00", "\x01", "\x02"} {
			l = append(l, api.Entry{ID: id + kid, Args: []int{0}, Steps: 4})
		}
	}
	want(t, "three of three", j, l...)
}

// leaves are n entries of tasks that the first one spawned, each of function 1, of no arguments, ended with 1.
func leaves(n int) []api.Entry {
	var l []api.Entry
	for k := range n {
		l = append(l, api.Entry{ID: api.ID([]byte{byte(k)}), Func: 1, Result: value(1), Steps: 2})
	}
	return l
}

// Of 16 spawns all have their names, up to the last one; with a 17th the task ends, and those that it had are tasks.
func TestP901Kids(t *testing.T) {
	g := " / func g 0 0 / push 1 / ret"
	most := jobOf(t, "job 200 17 / main f 15 / func f 1 1 / spawn g / pop / load 0 / zero 9 / load 0 / push 1 / sub / store 0 / jump 0 / push 7 / ret"+g)
	first := api.Entry{Args: []int{15}, Result: value(7), Steps: 16*4 + 15*5 + 2, Kids: 16}
	want(t, "16 spawns", most, append([]api.Entry{first}, leaves(16)...)...)
	over := jobOf(t, "job 200 17 / main f / func f 0 0 / spawn g / pop / jump 0"+g)
	first = api.Entry{Result: api.Result{Err: api.ErrKids}, Steps: 16*3 + 1, Kids: 16}
	want(t, "17 spawns", over, append([]api.Entry{first}, leaves(16)...)...)
}

func TestP901Awaits(t *testing.T) {
	g := " / func g 1 1 / load 0 / ret"
	kids := []api.Entry{
		{ID: "\x00", Func: 1, Args: []int{5}, Result: value(5), Steps: 2},
		{ID: "\x01", Func: 1, Args: []int{6}, Result: value(6), Steps: 2},
	}
	for name, x := range map[string]struct {
		code  string
		first api.Entry
	}{
		"none":                  {"push 1 / ret", api.Entry{Result: value(1), Steps: 6}},
		"the later one first":   {"await / swap / await / sub / ret", api.Entry{Result: value(1), Steps: 9, Awaits: []int{1, 0}}},
		"the earlier one first": {"swap / await / swap / await / sub / ret", api.Entry{Result: value(-1), Steps: 10, Awaits: []int{0, 1}}},
		"one twice":             {"pop / dup / await / swap / await / add / ret", api.Entry{Result: value(10), Steps: 11, Awaits: []int{0, 0}}},
		"by a number":           {"push 1 / await / push 0 / await / push 1 / await / add / add / ret", api.Entry{Result: value(17), Steps: 13, Awaits: []int{1, 0, 1}}},
		"then an error":         {"await / swap / await / push 0 / mod / ret", api.Entry{Result: api.Result{Err: api.ErrDiv}, Steps: 9, Awaits: []int{1, 0}}},
		"then none that is":     {"await / await / ret", api.Entry{Result: api.Result{Err: api.ErrHandle}, Steps: 6, Awaits: []int{1}}},
		"below 0":               {"push -1 / await / ret", api.Entry{Result: api.Result{Err: api.ErrHandle}, Steps: 6}},
		"one that is not yet":   {"push 2 / await / ret", api.Entry{Result: api.Result{Err: api.ErrHandle}, Steps: 6}},
	} {
		x.first.Kids = 2
		j := jobOf(t, "job 60 3 / main f / func f 0 0 / push 5 / spawn g / push 6 / spawn g / "+x.code+g)
		want(t, name, j, append([]api.Entry{x.first}, kids...)...)
	}
}

// An error goes up to who waits for it, as it is; to nobody else.
func TestP901Errors(t *testing.T) {
	fails := api.Result{Err: api.ErrFail, Value: -9}
	leaf := func(id api.ID) api.Entry { return api.Entry{ID: id, Func: 2, Result: fails, Steps: 2} }
	gh := " / func g 0 0 / spawn h / await / ret / func h 0 0 / push -9 / fail"
	want(t, "up to the first one",
		jobOf(t, "job 60 20 / main f / func f 0 0 / spawn g / await / push 1 / ret"+gh),
		api.Entry{Result: fails, Steps: 2, Kids: 1, Awaits: []int{0}},
		api.Entry{ID: "\x00", Func: 1, Result: fails, Steps: 2, Kids: 1, Awaits: []int{0}},
		leaf("\x00\x00"))
	want(t, "nobody waits at the first one",
		jobOf(t, "job 60 20 / main f / func f 0 0 / spawn g / push 1 / ret"+gh),
		api.Entry{Result: value(1), Steps: 3, Kids: 1},
		api.Entry{ID: "\x00", Func: 1, Result: fails, Steps: 2, Kids: 1, Awaits: []int{0}},
		leaf("\x00\x00"))
	want(t, "behind one that is good; what would be spawned behind it is not",
		jobOf(t, "job 60 20 / main f / func f 0 0 / spawn h / spawn i / await / swap / await / spawn i / ret / func g 0 0 / push 0 / ret / func h 0 0 / push -9 / fail / func i 0 0 / push 4 / ret"),
		api.Entry{Result: fails, Steps: 5, Kids: 2, Awaits: []int{1, 0}},
		leaf("\x00"),
		api.Entry{ID: "\x01", Func: 3, Result: value(4), Steps: 2})
}

func TestP901Fuel(t *testing.T) {
	end := func(steps int) api.Entry { return api.Entry{Result: api.Result{Err: api.ErrFuel}, Steps: steps} }
	want(t, "a loop", jobOf(t, "job 7 20 / main f / func f 0 0 / jump 0"), end(7))
	want(t, "the longest loop", jobOf(t, "job 5000 20 / main f / func f 0 0 / jump 0"), end(5000))
	want(t, "a step too few", jobOf(t, "job 1 20 / main f / func f 0 0 / push 5 / ret"), end(1))
	want(t, "just enough", jobOf(t, "job 2 20 / main f / func f 0 0 / push 5 / ret"), api.Entry{Result: value(5), Steps: 2})
	kid := api.Entry{ID: "\x00", Func: 1, Result: value(4), Steps: 2}
	await := func(fuel string) api.Job {
		return jobOf(t, "job "+fuel+" 20 / main f / func f 0 0 / spawn g / dup / await / ret / func g 0 0 / push 4 / ret")
	}
	want(t, "the last step is an await", await("3"), api.Entry{Result: api.Result{Err: api.ErrFuel}, Steps: 3, Kids: 1, Awaits: []int{0}}, kid)
	want(t, "no step is left for an await", await("2"), api.Entry{Result: api.Result{Err: api.ErrFuel}, Steps: 2, Kids: 1}, kid)
	want(t, "a step more", await("4"), api.Entry{Result: value(4), Steps: 4, Kids: 1, Awaits: []int{0}}, kid)
	kid.Result, kid.Steps = api.Result{Err: api.ErrFuel}, 1
	want(t, "the last step is a spawn", await("1"), api.Entry{Result: api.Result{Err: api.ErrFuel}, Steps: 1, Kids: 1}, kid)
	kid = api.Entry{ID: "\x00", Func: 1, Result: api.Result{Err: api.ErrFail, Value: 4}, Steps: 2}
	want(t, "the last step waits for an error",
		jobOf(t, "job 2 20 / main f / func f 0 0 / spawn g / await / ret / func g 0 0 / push 4 / fail"),
		api.Entry{Result: kid.Result, Steps: 2, Kids: 1, Awaits: []int{0}}, kid)
}

// chain are the entries of a chain of tasks, each of which spawns the next one, down to where none may be.
func chain(awaits bool) []api.Entry {
	var l []api.Entry
	for deep := range api.MaxDeep {
		x := api.Entry{ID: api.ID(strings.Repeat("\x00", deep)), Steps: 2, Kids: 1}
		if awaits {
			x.Result, x.Awaits = api.Result{Err: api.ErrDeep}, []int{0}
		}
		l = append(l, x)
	}
	return append(l, api.Entry{ID: api.ID(strings.Repeat("\x00", api.MaxDeep)), Result: api.Result{Err: api.ErrDeep}, Steps: 1})
}

func TestP901Deep(t *testing.T) {
	want(t, "a chain", jobOf(t, "job 60 13 / main f / func f 0 0 / spawn f / ret"), chain(false)...)
	want(t, "a chain that waits", jobOf(t, "job 60 13 / main f / func f 0 0 / spawn f / await / ret"), chain(true)...)
}

// withTasks is j, with other Tasks.
func withTasks(j api.Job, n int) api.Job {
	j.Tasks = n
	return j
}

func TestP901Tasks(t *testing.T) {
	g := " / func g 0 0 / push 1 / ret"
	for name, x := range map[string]struct {
		tasks int
		text  string
	}{
		"one":                                {1, "push 5 / ret"},
		"one that nobody waits for":          {2, "spawn g / ret"},
		"a chain":                            {13, "spawn f / ret"},
		"a chain that waits":                 {13, "spawn f / await / ret"},
		"an error behind the spawns":         {3, "spawn g / spawn g / fail"},
		"an error ahead of a spawn":          {2, "spawn g / fail / spawn g / fail"},
		"no fuel behind the spawns":          {3, "spawn g / spawn g / jump 2"},
		"a spawn too many":                   {17, "spawn g / pop / jump 0"},
		"a spawn that an await shuts out":    {2, "spawn g / push 5 / await / spawn g / ret"},
		"spawns ahead of one that is waited": {4, "spawn g / spawn g / spawn g / await / ret"},
	} {
		j := jobOf(t, "job 60 20 / main f / func f 0 0 / "+x.text+g)
		for _, n := range []int{x.tasks, x.tasks + 1, api.MaxTasks} {
			if l, e := eval.Eval(withTasks(j, n)); e != api.OK || len(l) != x.tasks {
				t.Errorf("P901: %s, Tasks %d: error %d, %d entries, not %d", name, n, e, len(l), x.tasks)
			}
		}
		for n := 1; n < x.tasks; n++ {
			refused(t, fmt.Sprint(name, ", Tasks ", n), withTasks(j, n), api.ErrTasks)
		}
	}
}

// Jobs that would have 16 to the 12th tasks, and more, are soon through.
func TestP901FarTooManyTasks(t *testing.T) {
	for name, text := range map[string]string{
		"nobody waits":        "spawn f / pop / jump 0",
		"spawns, then waits":  "spawn f / spawn f / spawn f / spawn f / await / ret",
		"all steps are gone":  "spawn f / spawn f / jump 2",
		"an error in between": "spawn f / spawn f / push 7 / fail",
	} {
		for _, n := range []int{1, 2, 12, api.MaxTasks} {
			refused(t, fmt.Sprint(name, ", Tasks ", n), withTasks(jobOf(t, "job 5000 500 / main f / func f 0 0 / "+text), n), api.ErrTasks)
		}
	}
}

// greatest is a job of as many tasks as there may be, in as much code as there may be, that wait nearly all of the time; with its entries. Its functions: the first one's, whose spawns are 6 of 83 tasks and a leaf; 83 are one and 2 of 41; 41 are one and 4 chains of 10, each of whose last one is a leaf.
func greatest() (api.Job, []api.Entry) {
	const leaf, passes, waits = 12, 21, 76
	spawns := [][]int{{1, 1, 1, 1, 1, 1, leaf}, {2, 2}, {3, 3, 3, 3}, {4}, {5}, {6}, {7}, {8}, {9}, {10}, {11}, {leaf}}
	j := api.Job{Fuel: api.MaxFuel, Tasks: api.MaxTasks}
	for k := range api.MaxFuncs {
		f := api.Func{Name: fmt.Sprint("f", k), Locals: 1}
		if k < len(spawns) {
			f.Code = waiter(passes, waits, spawns[k]...)
		}
		f.Code = append(f.Code, api.Ins{Op: api.Push, N: 1}, api.Ins{Op: api.Ret})
		for k != leaf && len(f.Code) < api.MaxCode {
			f.Code = append(f.Code, api.Ins{Op: api.Jump})
		}
		j.Funcs = append(j.Funcs, f)
	}
	var l []api.Entry
	var list func(id api.ID, f int)
	list = func(id api.ID, f int) {
		x := api.Entry{ID: id, Func: f, Result: value(1), Steps: 2}
		if f != leaf {
			x.Kids, x.Awaits = len(spawns[f]), make([]int, passes*waits)
			x.Steps += 2*x.Kids + passes*(3*waits+8)
		}
		l = append(l, x)
		for k := range x.Kids {
			list(id+api.ID(rune(k)), spawns[f][k])
		}
	}
	list("", 0)
	return j, l
}

// waiter is code that spawns, then goes so many times over so many awaits of the first spawn.
func waiter(passes, waits int, spawns ...int) []api.Ins {
	var c []api.Ins
	for _, f := range spawns {
		c = append(c, api.Ins{Op: api.Spawn, N: f}, api.Ins{Op: api.Pop})
	}
	again := len(c)
	c = append(c, slices.Repeat([]api.Ins{{Op: api.Push}, {Op: api.Await}, {Op: api.Pop}}, waits)...)
	return append(c, api.Ins{Op: api.Load}, api.Ins{Op: api.Push, N: 1}, api.Ins{Op: api.Add}, api.Ins{Op: api.Dup}, api.Ins{Op: api.Store},
		api.Ins{Op: api.Push, N: passes}, api.Ins{Op: api.Eq}, api.Ins{Op: api.Zero, N: again})
}

func TestP901Greatest(t *testing.T) {
	j, l := greatest()
	if len(l) != api.MaxTasks {
		t.Fatalf("the test is wrong: %d tasks", len(l))
	}
	got, e := eval.Eval(j)
	if e != api.OK || !sameEntries(got, l) {
		t.Errorf("P901: error %d, %d entries, not %d", e, len(got), len(l))
	}
	tasks, steps := 0, 0
	for _, x := range l {
		tasks, steps = tasks+1, steps+x.Steps
	}
	if n, s := eval.Total(got...); n != tasks || s != steps {
		t.Errorf("P902: %d, %d, not %d, %d", n, s, tasks, steps)
	}
	refused(t, "one too many", withTasks(j, api.MaxTasks-1), api.ErrTasks)
}

// What Check refuses has Check's error, whatever else there would be.
func TestP901Check(t *testing.T) {
	refused(t, "no function", api.Job{}, api.ErrFunc)
	seen := map[api.Errno]bool{}
	for name, turn := range map[string]func(j *api.Job){
		"no function":        func(j *api.Job) { j.Funcs = nil },
		"too many functions": func(j *api.Job) { j.Funcs = slices.Repeat(j.Funcs, api.MaxFuncs) },
		"Fuel 0":             func(j *api.Job) { j.Fuel = 0 },
		"Fuel below 0":       func(j *api.Job) { j.Fuel = math.MinInt },
		"too much Fuel":      func(j *api.Job) { j.Fuel = api.MaxFuel + 1 },
		"Tasks 0":            func(j *api.Job) { j.Tasks = 0 },
		"Tasks below 0":      func(j *api.Job) { j.Tasks = -1 },
		"too many Tasks":     func(j *api.Job) { j.Tasks = api.MaxTasks + 1 },
		"Main below 0":       func(j *api.Job) { j.Main = -1 },
		"Main of none":       func(j *api.Job) { j.Main = 2 },
		"an arg too few":     func(j *api.Job) { j.Main = 1 },
		"an arg too many":    func(j *api.Job) { j.Args = []int{1} },
		"a name twice":       func(j *api.Job) { j.Funcs[1].Name = "f" },
		"Args below 0":       func(j *api.Job) { j.Funcs[1].Args = -1 },
		"too few Locals":     func(j *api.Job) { j.Funcs[1].Locals = 0 },
		"no code":            func(j *api.Job) { j.Funcs[1].Code = nil },
		"no instruction":     func(j *api.Job) { j.Funcs[1].Code[0].Op = 20 },
		"no local":           func(j *api.Job) { j.Funcs[1].Code[0].N = 1 },
		"a jump out":         func(j *api.Job) { j.Funcs[0].Code[2] = api.Ins{Op: api.Jump, N: 4} },
		"a spawn of none":    func(j *api.Job) { j.Funcs[0].Code[1].N = 2 },
		"an empty stack":     func(j *api.Job) { j.Funcs[0].Code[0] = api.Ins{Op: api.Dup} },
		"no ret":             func(j *api.Job) { j.Funcs[0].Code[3] = api.Ins{Op: api.Await} },
		"one never begun":    func(j *api.Job) { j.Funcs[0].Code[1], j.Funcs[1].Code = api.Ins{Op: api.Dup}, j.Funcs[1].Code[1:] },
	} {
		j := jobOf(t, "job 60 1 / main f / func f 0 0 / push 1 / spawn g / dup / ret / func g 1 1 / load 0 / ret")
		refused(t, "as it is", j, api.ErrTasks)
		turn(&j)
		_, _, e := check.Check(j)
		if seen[e] = true; e == api.OK {
			t.Fatalf("the test is wrong: %s", name)
		}
		refused(t, name, j, e)
	}
	for _, e := range []api.Errno{api.ErrFunc, api.ErrLong, api.ErrLimit, api.ErrArgs, api.ErrName, api.ErrLocal, api.ErrOp, api.ErrJump, api.ErrStack} {
		if !seen[e] {
			t.Errorf("no job with the error %d", e)
		}
	}
}

func TestP902Total(t *testing.T) {
	of := func(steps ...int) []api.Entry {
		var l []api.Entry
		for k, n := range steps {
			l = append(l, api.Entry{ID: api.ID(strings.Repeat("\xff", 13*(k%2))), Func: 99, Args: []int{5, 6}, Result: api.Result{Err: api.ErrFuel, Value: 7}, Steps: n, Kids: 8, Awaits: []int{9}})
		}
		return l
	}
	for _, x := range []struct {
		steps []int
		sum   int
	}{
		{nil, 0},
		{[]int{0}, 0},
		{[]int{4}, 4},
		{[]int{-4}, -4},
		{[]int{1, 2, 3}, 6},
		{[]int{5, -7, 0, 5}, 3},
		{[]int{math.MaxInt, 0}, math.MaxInt},
		{[]int{math.MaxInt, 1}, math.MinInt},
		{[]int{math.MinInt, -1, 3}, math.MinInt + 2},
	} {
		if n, s := eval.Total(of(x.steps...)...); n != len(x.steps) || s != x.sum {
			t.Errorf("P902: Total of %v: %d, %d, not %d, %d", x.steps, n, s, len(x.steps), x.sum)
		}
	}
	if n, s := eval.Total([]api.Entry{}...); n != 0 || s != 0 {
		t.Errorf("P902: Total of an empty list: %d, %d", n, s)
	}
}

// named is an entry of that name, each of whose fields hangs on n.
func named(id api.ID, n int) api.Entry {
	return api.Entry{ID: id, Func: n + 1, Args: []int{n + 2, n + 3}, Result: api.Result{Err: api.Errno(n + 4), Value: n + 5}, Steps: n + 6, Kids: n + 7, Awaits: []int{n + 8}}
}

func TestP902Find(t *testing.T) {
	// neither rising nor all names of tasks: Find asks nothing of a list
	l := []api.Entry{named("\x01", 10), named("\x01\x00", 20), named("\xff", 30), named("\x01", 40), {ID: "\x00"}, named("", -90), named("", 60), named(api.ID(strings.Repeat("\x07", 40)), 70)}
	for id, at := range map[api.ID]int{"\x01": 0, "\x01\x00": 1, "\xff": 2, "\x00": 4, "": 5, api.ID(strings.Repeat("\x07", 40)): 7} {
		if x, ok := eval.Find(l, id); !ok || !sameEntry(x, l[at]) {
			t.Errorf("P902: Find %q: %+v, %v, not %+v", id, x, ok, l[at])
		}
	}
	for _, id := range []api.ID{"\x02", "\x01\x01", "\x01\x00\x00", "\x00\x00", "\xff\xff", "r1", api.ID(strings.Repeat("\x07", 39))} {
		if x, ok := eval.Find(l, id); ok || !sameEntry(x, api.Entry{}) {
			t.Errorf("P902: Find %q: %+v, %v", id, x, ok)
		}
	}
	for name, none := range map[string][]api.Entry{"nil": nil, "empty": {}, "spare room alone": l[:0], "not the first": l[:5]} {
		if x, ok := eval.Find(none, ""); ok || !sameEntry(x, api.Entry{}) {
			t.Errorf("P902: Find in %s: %+v, %v", name, x, ok)
		}
	}
}

// Each entry of what Eval answers is found by its name.
func TestP902FindAll(t *testing.T) {
	_, l := greatest()
	for _, x := range l {
		if y, ok := eval.Find(l, x.ID); !ok || !sameEntry(x, y) {
			t.Fatalf("P902: Find %q: %v", x.ID, ok)
		}
	}
}

// roomy is a list with filled spare room.
func roomy[T any](l []T, spare ...T) []T {
	return append(slices.Clone(l), spare...)[:len(l)]
}

// roomyJob is j with filled spare room in its lists.
func roomyJob(j api.Job) api.Job {
	j.Args = roomy(j.Args, 75, 76)
	j.Funcs = roomy(j.Funcs, api.Func{Name: "spare"})
	for k := range j.Funcs {
		j.Funcs[k].Code = roomy(j.Funcs[k].Code, api.Ins{Op: api.Fail}, api.Ins{Op: api.Pop})
	}
	return j
}

// shownJob is all of a roomy job, the spare room too.
func shownJob(j api.Job) string {
	out := fmt.Sprint(j.Main, j.Fuel, j.Tasks, j.Args[:len(j.Args)+2], j.Funcs[:len(j.Funcs)+1])
	for _, f := range j.Funcs {
		out += fmt.Sprint(f.Code[:len(f.Code)+2])
	}
	return out
}

// spoil writes over each list of the entries, with its spare room.
func spoil(l ...api.Entry) {
	for _, x := range l {
		for _, y := range [][]int{x.Args, x.Awaits} {
			for k := range y[:cap(y)] {
				y[:cap(y)][k] = 99
			}
		}
	}
}

// copies are the entries, in memory of their own.
func copies(l ...api.Entry) []api.Entry {
	l = slices.Clone(l)
	for k, x := range l {
		l[k].Args, l[k].Awaits = slices.Clone(x.Args), slices.Clone(x.Awaits)
	}
	return l
}

func TestP903HandedInStays(t *testing.T) {
	r := rand.New(rand.NewSource(903))
	for range 500 {
		j := roomyJob(someJob(t, r.Intn))
		before := shownJob(j)
		l, _ := eval.Eval(j)
		spoil(l...)
		if now := shownJob(j); now != before {
			t.Fatalf("P903: what was handed in was changed: %s, not %s", now, before)
		}
	}
	l := []api.Entry{named("", 10), named("\x01", 20)}
	for k, x := range l {
		l[k].Args, l[k].Awaits = roomy(x.Args, 71, 72), roomy(x.Awaits, 73, 74)
	}
	shown := func() string {
		return fmt.Sprint(l, l[0].Args[:4], l[0].Awaits[:3], l[1].Args[:4], l[1].Awaits[:3])
	}
	before := shown()
	eval.Total(l...)
	for _, id := range []api.ID{"", "\x01", "\x02"} {
		x, _ := eval.Find(l, id)
		spoil(x)
	}
	if now := shown(); now != before {
		t.Errorf("P903: what was handed in was changed: %s, not %s", now, before)
	}
}

func TestP903NewMemory(t *testing.T) {
	r := rand.New(rand.NewSource(9031))
	lists := 0
	for range 500 {
		j := someJob(t, r.Intn)
		l, _ := eval.Eval(j)
		again, _ := eval.Eval(j)
		was := copies(l...)
		for k := range j.Args {
			j.Args[k] = 77
		}
		spoil(again...)
		if !sameEntries(l, was) {
			t.Fatalf("P903: answers share memory with each other, or with what was handed in: %+v, not %+v", l, was)
		}
		for k := range l {
			x, y := l[k], was[k]
			lists += min(1, len(x.Args)) + min(1, len(x.Awaits))
			spoil(api.Entry{Args: x.Args})
			if !slices.Equal(x.Awaits, y.Awaits) {
				t.Fatalf("P903: lists of one entry share memory: %+v, not %+v", x, y)
			}
			spoil(x)
			if !sameEntries(l[k+1:], was[k+1:]) {
				t.Fatalf("P903: lists of two entries share memory: %+v, not %+v", l[k+1:], was[k+1:])
			}
		}
	}
	if lists < 500 {
		t.Errorf("the jobs have too few lists: %d", lists)
	}
}

func TestP903FindNewMemory(t *testing.T) {
	l := []api.Entry{named("\x01", 20)}
	x, _ := eval.Find(l, "\x01")
	y, _ := eval.Find(l, "\x01")
	spoil(l...)
	spoil(y)
	if !sameEntry(x, named("\x01", 20)) {
		t.Errorf("P903: an answer shares memory with another, or with what was handed in: %+v", x)
	}
	spoil(api.Entry{Args: x.Args})
	if !slices.Equal(x.Awaits, []int{28}) {
		t.Errorf("P903: lists of an answer share memory: %+v", x)
	}
}

// What was asked ahead, or is asked at the same time, makes no difference.
func TestP903JobAlone(t *testing.T) {
	r := rand.New(rand.NewSource(9032))
	var jobs []api.Job
	var answers [][]api.Entry
	var errs []api.Errno
	for k := range 100 {
		jobs = append(jobs, someJob(t, r.Intn))
		l, e := eval.Eval(jobs[k])
		answers, errs = append(answers, l), append(errs, e)
	}
	var all sync.WaitGroup
	for n := range 8 {
		all.Go(func() {
			for k := range jobs {
				k = (k*(2*n+1) + n) % len(jobs)
				if l, e := eval.Eval(jobs[k]); e != errs[k] || !sameEntries(l, answers[k]) {
					t.Errorf("P903: error %d, then %d; %+v, then %+v", errs[k], e, answers[k], l)
				}
			}
		})
	}
	all.Wait()
}
