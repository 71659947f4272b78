package check_test

import (
	"fmt"
	"math"
	"math/big"
	"math/rand"
	"regexp"
	"slices"
	"strings"
	"sync"
	"testing"

	"gleaner/api"
	"gleaner/asm"
	"gleaner/check"
)

// Instructions that most tests need.
var (
	push  = api.Ins{Op: api.Push, N: 7}
	pop   = api.Ins{Op: api.Pop}
	dup   = api.Ins{Op: api.Dup}
	swap  = api.Ins{Op: api.Swap}
	add   = api.Ins{Op: api.Add}
	await = api.Ins{Op: api.Await}
	ret   = api.Ins{Op: api.Ret}
	fail  = api.Ins{Op: api.Fail}
)

func load(n int) api.Ins  { return api.Ins{Op: api.Load, N: n} }
func store(n int) api.Ins { return api.Ins{Op: api.Store, N: n} }
func jump(n int) api.Ins  { return api.Ins{Op: api.Jump, N: n} }
func zero(n int) api.Ins  { return api.Ins{Op: api.Zero, N: n} }
func spawn(n int) api.Ins { return api.Ins{Op: api.Spawn, N: n} }

// one is a job of one function without arguments and locals, with that code.
func one(c ...api.Ins) api.Job {
	return api.Job{Fuel: 1, Tasks: 1, Funcs: []api.Func{{Name: "f", Code: c}}}
}

// pair is a job of two functions, in which all that a function can have is there; turned by turn.
func pair(turn ...func(j *api.Job)) api.Job {
	j := api.Job{Fuel: 100, Tasks: 9, Main: 1, Args: []int{3}, Funcs: []api.Func{
		{Name: "one", Args: 2, Locals: 3, Code: []api.Ins{load(0), load(1), add, store(2), load(2), ret}},
		{Name: "two", Args: 1, Locals: 1, Code: []api.Ins{load(0), zero(6), push, dup, spawn(0), jump(8), push, spawn(1), await, ret, fail}},
	}}
	for _, t := range turn {
		t(&j)
	}
	return j
}

// many is a job of n functions.
func many(n int) api.Job {
	j := api.Job{Fuel: 1, Tasks: 1}
	for k := range n {
		j.Funcs = append(j.Funcs, api.Func{Name: fmt.Sprintf("f%d", k), Code: []api.Ins{push, ret}})
	}
	return j
}

// times is that code n times.
func times(n int, c ...api.Ins) []api.Ins {
	return slices.Repeat(c, n)
}

// told is what Check answers.
type told struct {
	f, i int
	e    api.Errno
}

func tell(j api.Job) told {
	f, i, e := check.Check(j)
	return told{f, i, e}
}

type try struct {
	name string
	j    api.Job
	want told
}

func runTries(t *testing.T, promise string, tries []try) {
	t.Helper()
	for _, x := range tries {
		if got := tell(x.j); got != x.want {
			t.Errorf("%s: %s: %v, not %v", promise, x.name, got, x.want)
		}
	}
}

func TestP501Taken(t *testing.T) {
	whole := func(turn func(j *api.Job)) api.Job { return pair(turn) }
	runTries(t, "P501", []try{
		{"pair", pair(), told{}},
		{"main is the first", whole(func(j *api.Job) { j.Main, j.Args = 0, []int{1, 2} }), told{}},
		{"least Fuel and Tasks", whole(func(j *api.Job) { j.Fuel, j.Tasks = 1, 1 }), told{}},
		{"greatest Fuel and Tasks", whole(func(j *api.Job) { j.Fuel, j.Tasks = api.MaxFuel, api.MaxTasks }), told{}},
		{"most functions", many(api.MaxFuncs), told{}},
		{"last function is main", func() api.Job { j := many(api.MaxFuncs); j.Main = api.MaxFuncs - 1; return j }(), told{}},
		{"longest name", whole(func(j *api.Job) { j.Funcs[0].Name = "a" + strings.Repeat("9", api.MaxName-1) }), told{}},
		{"name that begins another", whole(func(j *api.Job) { j.Funcs[0].Name = "tw" }), told{}},
		{"most Args", whole(func(j *api.Job) {
			j.Main, j.Args = 0, make([]int, api.MaxArgs)
			j.Funcs = []api.Func{{Name: "f", Args: api.MaxArgs, Locals: api.MaxArgs, Code: []api.Ins{load(api.MaxArgs - 1), ret}}}
		}), told{}},
		{"most Locals", whole(func(j *api.Job) { j.Funcs[0].Locals = api.MaxLocals }), told{}},
		{"as many Locals as Args", whole(func(j *api.Job) { j.Funcs[1].Locals = 1 }), told{}},
		{"longest code", one(append(times(api.MaxCode/2-1, push, pop), push, ret)...), told{}},
		{"shortest code", one(jump(0)), told{}},
		{"any N of push", one(api.Ins{Op: api.Push, N: math.MinInt}, pop, api.Ins{Op: api.Push, N: math.MaxInt}, ret), told{}},
		{"any Args of the job", whole(func(j *api.Job) { j.Args[0] = math.MinInt }), told{}},
		{"spawn of itself", one(spawn(0), ret), told{}},
	})
}

func TestP501Job(t *testing.T) {
	turned := func(turn func(j *api.Job)) api.Job { return pair(turn) }
	tries := []try{
		{"no function", api.Job{}, told{0, 0, api.ErrFunc}},
		{"no function, nothing else wrong", turned(func(j *api.Job) { j.Funcs = nil }), told{0, 0, api.ErrFunc}},
		{"too many functions", many(api.MaxFuncs + 1), told{0, 0, api.ErrLong}},
		{"too many Args", turned(func(j *api.Job) { j.Args = []int{3, 4} }), told{0, 0, api.ErrArgs}},
		{"too few Args", turned(func(j *api.Job) { j.Args = nil }), told{0, 0, api.ErrArgs}},
		{"main has less than no Args", turned(func(j *api.Job) { j.Funcs[1].Args, j.Args = -1, nil }), told{0, 0, api.ErrArgs}},
		{"as many Args as the other function", turned(func(j *api.Job) { j.Main = 0 }), told{0, 0, api.ErrArgs}},
	}
	for _, n := range []int{0, -1, math.MinInt, api.MaxFuel + 1, math.MaxInt} {
		tries = append(tries, try{fmt.Sprint("Fuel ", n), turned(func(j *api.Job) { j.Fuel = n }), told{0, 0, api.ErrLimit}})
	}
	for _, n := range []int{0, -1, math.MinInt, api.MaxTasks + 1, math.MaxInt} {
		tries = append(tries, try{fmt.Sprint("Tasks ", n), turned(func(j *api.Job) { j.Tasks = n }), told{0, 0, api.ErrLimit}})
	}
	for _, n := range []int{2, -1, math.MinInt, math.MaxInt} {
		tries = append(tries, try{fmt.Sprint("Main ", n), turned(func(j *api.Job) { j.Main = n }), told{0, 0, api.ErrFunc}})
	}
	runTries(t, "P501", tries)
}

func TestP501Func(t *testing.T) {
	var tries []try
	turned := func(name string, e api.Errno, turn func(f *api.Func)) {
		for k := range 2 {
			j := pair(func(j *api.Job) { j.Main = 1 - k })
			j.Args = make([]int, j.Funcs[j.Main].Args)
			for f := range j.Funcs { // without code that a spawn makes depend on the other one
				j.Funcs[f].Code = []api.Ins{push, ret}
			}
			turn(&j.Funcs[k])
			tries = append(tries, try{fmt.Sprint(name, " of function ", k), j, told{k, 0, e}})
		}
	}
	for _, s := range []string{"", "1", "1a", "A", "aB", "a b", " a", "a ", "a_", "a-", "ä", "a\n", "a\x00", "a\xff", "`a", "{", "a/", "a:", "a`", "a{", "/a", strings.Repeat("a", api.MaxName+1)} {
		turned(fmt.Sprintf("name %q", s), api.ErrName, func(f *api.Func) { f.Name = s })
	}
	for _, n := range []int{-1, api.MaxArgs + 1, math.MinInt, math.MaxInt} {
		turned(fmt.Sprint("Args ", n), api.ErrArgs, func(f *api.Func) { f.Args, f.Locals = n, n })
	}
	for _, n := range []int{0, -1, api.MaxLocals + 1, math.MinInt, math.MaxInt} {
		turned(fmt.Sprint("Locals ", n), api.ErrLocal, func(f *api.Func) { f.Locals = n })
	}
	turned("no code", api.ErrLong, func(f *api.Func) { f.Code = nil })
	turned("empty code", api.ErrLong, func(f *api.Func) { f.Code = []api.Ins{} })
	turned("too much code", api.ErrLong, func(f *api.Func) { f.Code = append(times(api.MaxCode-1, jump(0)), push, ret) })
	twice := many(4)
	twice.Funcs[3].Name = twice.Funcs[0].Name
	tries = append(tries, try{"a name twice", twice, told{3, 0, api.ErrName}})
	runTries(t, "P501", tries)
}

func TestP501Ins(t *testing.T) {
	var tries []try
	at := func(name string, e api.Errno, i api.Ins) {
		j := pair()
		j.Funcs[0].Code = []api.Ins{load(0), load(1), i, ret, i}
		tries = append(tries, try{name, j, told{0, 2, e}})
		j = pair()
		j.Funcs[1].Code = []api.Ins{i}
		tries = append(tries, try{name + " alone", j, told{1, 0, e}})
	}
	for _, op := range []int{0, -1, 20, math.MinInt, math.MaxInt, api.Add + 1<<32, api.Add + 256} {
		at(fmt.Sprint("op ", op), api.ErrOp, api.Ins{Op: op})
	}
	for _, op := range []int{api.Pop, api.Dup, api.Swap, api.Add, api.Sub, api.Mul, api.Div, api.Mod, api.Lt, api.Eq, api.Await, api.Ret, api.Fail} {
		for _, n := range []int{1, -1, math.MinInt, math.MaxInt} {
			at(fmt.Sprint("op ", op, " with N ", n), api.ErrOp, api.Ins{Op: op, N: n})
		}
	}
	for _, n := range []int{3, 16, -1, math.MinInt, math.MaxInt} {
		at(fmt.Sprint("load ", n), api.ErrLocal, load(n))
		at(fmt.Sprint("store ", n), api.ErrLocal, store(n))
	}
	for _, n := range []int{5, -1, math.MinInt, math.MaxInt} {
		at(fmt.Sprint("jump ", n), api.ErrJump, jump(n))
		at(fmt.Sprint("zero ", n), api.ErrJump, zero(n))
	}
	for _, n := range []int{2, -1, math.MinInt, math.MaxInt} {
		at(fmt.Sprint("spawn ", n), api.ErrFunc, spawn(n))
	}
	runTries(t, "P501", tries)
}

// Of two things that are wrong the one that the chapter names first is told, and an instruction's ahead of all depths of its function.
func TestP501Order(t *testing.T) {
	type fault struct {
		name string
		want told
		turn func(j *api.Job)
	}
	faults := []fault{
		{"too many functions", told{0, 0, api.ErrLong}, func(j *api.Job) { j.Funcs = append(j.Funcs, make([]api.Func, api.MaxFuncs)...) }},
		{"Fuel", told{0, 0, api.ErrLimit}, func(j *api.Job) { j.Fuel = 0 }},
		{"Tasks", told{0, 0, api.ErrLimit}, func(j *api.Job) { j.Tasks = 0 }},
		{"Main", told{0, 0, api.ErrFunc}, func(j *api.Job) { j.Main = -1 }},
		{"Args of the job", told{0, 0, api.ErrArgs}, func(j *api.Job) { j.Args = make([]int, 5) }},
		{"name 0", told{0, 0, api.ErrName}, func(j *api.Job) { j.Funcs[0].Name = "" }},
		{"Args 0", told{0, 0, api.ErrArgs}, func(j *api.Job) { j.Funcs[0].Args = -1 }},
		{"Locals 0", told{0, 0, api.ErrLocal}, func(j *api.Job) { j.Funcs[0].Locals = 17 }},
		{"long 0", told{0, 0, api.ErrLong}, func(j *api.Job) { j.Funcs[0].Code = append(j.Funcs[0].Code, times(api.MaxCode, ret)...) }},
		{"op 0", told{0, 3, api.ErrOp}, func(j *api.Job) { j.Funcs[0].Code[3].Op = 0 }},
		{"store 0", told{0, 4, api.ErrLocal}, func(j *api.Job) { j.Funcs[0].Code[4].N = 99 }},
		{"stack 0", told{0, 0, api.ErrStack}, func(j *api.Job) { j.Funcs[0].Code[0] = add }},
		{"name 1", told{1, 0, api.ErrName}, func(j *api.Job) { j.Funcs[1].Name = "" }},
		{"Locals 1", told{1, 0, api.ErrLocal}, func(j *api.Job) { j.Funcs[1].Locals = 0 }},
		{"long 1", told{1, 0, api.ErrLong}, func(j *api.Job) { j.Funcs[1].Code = append(j.Funcs[1].Code, times(api.MaxCode, ret)...) }},
		{"jump 1", told{1, 5, api.ErrJump}, func(j *api.Job) { j.Funcs[1].Code[5].N = 999 }},
		{"spawn 1", told{1, 7, api.ErrFunc}, func(j *api.Job) { j.Funcs[1].Code[7].N = 2 + api.MaxFuncs }},
		{"stack 1", told{1, 0, api.ErrStack}, func(j *api.Job) { j.Funcs[1].Code[0] = swap }},
	}
	var tries []try
	for k, x := range faults {
		tries = append(tries, try{x.name, pair(x.turn), x.want})
		for _, y := range faults[k+1:] {
			tries = append(tries, try{x.name + " and " + y.name, pair(y.turn, x.turn), x.want})
		}
	}
	runTries(t, "P501", tries)
	runTries(t, "P501", []try{
		{"a name that is none, twice", func() api.Job { j := many(3); j.Funcs[1].Name, j.Funcs[2].Name = "F", "F"; return j }(), told{1, 0, api.ErrName}},
		{"an instruction behind one that pops too much", one(pop, ret, jump(9)), told{0, 2, api.ErrJump}},
		{"a jump behind the last one that is never reached", one(push, ret, jump(3)), told{0, 2, api.ErrJump}},
		{"a zero behind the last one that is never reached", one(push, ret, zero(3)), told{0, 2, api.ErrJump}},
		{"an instruction that is never reached", one(push, ret, load(0)), told{0, 2, api.ErrLocal}},
		{"a function's depths ahead of the next one's name", pair(func(j *api.Job) { j.Funcs[0].Code, j.Funcs[1].Name = []api.Ins{push}, "" }), told{0, 0, api.ErrJump}},
		{"code alone wrong and no functions by its name", one(api.Ins{Op: api.Ret, N: 1}), told{0, 0, api.ErrOp}},
	})
}

func TestP502Faults(t *testing.T) {
	full := func(c ...api.Ins) api.Job { return one(append(times(api.MaxStack, push), c...)...) }
	last := api.MaxStack
	spawnOf := func(args int, c ...api.Ins) api.Job {
		j := one(append(c, spawn(1), ret)...)
		j.Funcs = append(j.Funcs, api.Func{Name: "g", Args: args, Locals: max(0, args), Code: []api.Ins{push, ret}})
		return j
	}
	runTries(t, "P502", []try{
		{"the chapter's example", one(add), told{0, 0, api.ErrStack}},
		{"ret of nothing", one(ret), told{0, 0, api.ErrStack}},
		{"fail of nothing", one(fail), told{0, 0, api.ErrStack}},
		{"one value too few", one(push, add, ret), told{0, 1, api.ErrStack}},
		{"swap of one", one(push, swap, ret), told{0, 1, api.ErrStack}},
		{"a full stack", full(ret), told{}},
		{"a push too many", full(push, ret), told{0, last, api.ErrStack}},
		{"a dup too many", full(dup, ret), told{0, last, api.ErrStack}},
		{"a swap on a full stack", full(swap, ret), told{}},
		{"an await on a full stack", full(await, ret), told{}},
		{"a spawn of none on a full stack", full(spawn(0), ret), told{0, last, api.ErrStack}},
		{"a spawn of one on a full stack", spawnOf(1, times(api.MaxStack, push)...), told{}},
		{"a spawn of more than there are", spawnOf(2, push), told{0, 1, api.ErrStack}},
		{"a spawn of as many as there are", spawnOf(2, push, push), told{}},
		{"an end without ret", one(push), told{0, 0, api.ErrJump}},
		{"an end without ret, but not reached", one(push, ret, push), told{}},
		{"a zero at the end", one(push, zero(0)), told{0, 1, api.ErrJump}},
		{"a zero to the next", one(push, zero(2), push, ret), told{}},
		{"a jump at the end", one(push, pop, jump(0)), told{}},
		{"a loop that grows", one(push, jump(0)), told{0, 1, api.ErrStack}},
		{"a loop that shrinks", one(push, push, pop, jump(1)), told{}},
		{"a loop of another depth", one(push, push, pop, pop, jump(1)), told{0, 4, api.ErrStack}},
		{"two ways of two depths", one(push, push, zero(4), push, ret), told{0, 3, api.ErrStack}},
		{"a way back of two depths", one(push, push, zero(1), ret), told{}},
		{"what pops too much is told ahead of where it goes", one(pop), told{0, 0, api.ErrStack}},
		{"a zero: no next, and the other of another depth", one(jump(2), ret, push, push, zero(2)), told{0, 4, api.ErrJump}},
		{"the least is gone over first", one(jump(3), pop, ret, push, zero(1), pop), told{0, 1, api.ErrStack}},
		{"the least again, not the one behind", one(jump(2), add, push, zero(1), pop), told{0, 1, api.ErrStack}},
		{"a greater one that is wrong too is told later", one(push, zero(4), push, ret, add), told{0, 4, api.ErrStack}},
	})
}

// A spawn of a function that comes later is reckoned with Args that nobody looked at yet, whatever they are.
func TestP502UnseenArgs(t *testing.T) {
	for args, want := range map[int]told{
		9:                                      {0, 1, api.ErrStack},
		math.MaxInt:                            {0, 1, api.ErrStack},
		-1:                                     {1, 0, api.ErrArgs},
		-(api.MaxStack - 2):                    {1, 0, api.ErrArgs},
		-(api.MaxStack - 1):                    {0, 1, api.ErrStack},
		-1 << 40:                               {0, 1, api.ErrStack},
		math.MinInt:                            {0, 1, api.ErrStack},
		math.MinInt + 1:                        {0, 1, api.ErrStack},
		math.MinInt + 2:                        {0, 1, api.ErrStack},
		math.MinInt + 1<<31:                    {0, 1, api.ErrStack},
		math.MinInt + api.MaxStack:             {0, 1, api.ErrStack},
		math.MinInt + api.MaxStack + 1<<4 + 10: {0, 1, api.ErrStack},
	} {
		j := one(push, spawn(1), ret)
		j.Funcs = append(j.Funcs, api.Func{Name: "g", Args: args, Code: []api.Ins{push, ret}})
		if got := tell(j); got != want {
			t.Errorf("P502: spawn of a function with %d Args: %v, not %v", args, got, want)
		}
	}
}

func TestP502Depths(t *testing.T) {
	const n = -1
	for _, x := range []struct {
		name string
		j    api.Job
		f    int
		want []int
	}{
		{"first of pair", pair(), 0, []int{0, 1, 2, 1, 0, 1}},
		{"second of pair", pair(), 1, []int{0, 1, 0, 1, 2, 1, 0, 1, 1, 1, n}},
		{"one that stands still", one(jump(0)), 0, []int{0}},
		{"behind a ret", one(push, ret, add), 0, []int{0, 1, n}},
		{"behind a fail", one(push, fail, add, ret), 0, []int{0, 1, n, n}},
		{"behind a jump", one(jump(2), add, push, ret), 0, []int{0, n, 0, 1}},
		{"backwards", one(jump(3), push, ret, jump(1)), 0, []int{0, 0, 1, 0}},
		{"both ways of a zero", one(push, push, zero(5), ret, add, dup, ret), 0, []int{0, 1, 2, 1, n, 1, 2}},
		{"not first in code, not in reach", one(push, ret, push, push, push, ret), 0, []int{0, 1, n, n, n, n}},
	} {
		if got := check.Depths(x.j, x.f); !slices.Equal(got, x.want) {
			t.Errorf("P502: %s: %v, not %v", x.name, got, x.want)
		}
	}
}

func TestP502NoDepths(t *testing.T) {
	for _, f := range []int{-1, 2, math.MinInt, math.MaxInt} {
		if got := check.Depths(pair(), f); len(got) != 0 {
			t.Errorf("P502: function %d, which there is none: %v", f, got)
		}
	}
	for name, j := range map[string]api.Job{
		"no function":             {},
		"another function wrong":  pair(func(j *api.Job) { j.Funcs[1].Name = "" }),
		"another function's code": pair(func(j *api.Job) { j.Funcs[1].Code[0] = add }),
		"its own code":            pair(func(j *api.Job) { j.Funcs[0].Code[0] = add }),
		"the limits":              pair(func(j *api.Job) { j.Fuel = 0 }),
		"a jump":                  pair(func(j *api.Job) { j.Funcs[0].Code = []api.Ins{jump(-1)} }),
		"no code":                 pair(func(j *api.Job) { j.Funcs[0].Code = nil }),
	} {
		for _, f := range []int{0, 1, -1} {
			if got := check.Depths(j, f); len(got) != 0 {
				t.Errorf("P502: %s, function %d: %v", name, f, got)
			}
		}
	}
}

// slowCheck asks all that the chapter asks, thing by thing, with numbers that do not wrap round; it answers the depths of all functions, too.
func slowCheck(j api.Job) (told, [][]int) {
	no := func(e api.Errno) (told, [][]int) { return told{0, 0, e}, nil }
	switch {
	case len(j.Funcs) == 0:
		return no(api.ErrFunc)
	case len(j.Funcs) > 32:
		return no(api.ErrLong)
	case j.Fuel < 1 || j.Fuel > 5000 || j.Tasks < 1 || j.Tasks > 500:
		return no(api.ErrLimit)
	case j.Main < 0 || j.Main >= len(j.Funcs):
		return no(api.ErrFunc)
	case len(j.Args) != j.Funcs[j.Main].Args:
		return no(api.ErrArgs)
	}
	var all [][]int
	for k := range j.Funcs {
		if i, e := slowFunc(j, k); e != api.OK {
			return told{k, i, e}, nil
		}
		i, e, depths := slowDepths(j, k)
		if e != api.OK {
			return told{k, i, e}, nil
		}
		all = append(all, depths)
	}
	return told{}, all
}

var slowName = regexp.MustCompile(`\A[a-z][a-z0-9]{0,19}\z`)

func slowFunc(j api.Job, k int) (int, api.Errno) {
	f := j.Funcs[k]
	for _, g := range j.Funcs[:k] {
		if g.Name == f.Name {
			return 0, api.ErrName
		}
	}
	switch {
	case !slowName.MatchString(f.Name):
		return 0, api.ErrName
	case f.Args < 0 || f.Args > 8:
		return 0, api.ErrArgs
	case f.Locals < f.Args || f.Locals > 16:
		return 0, api.ErrLocal
	case len(f.Code) < 1 || len(f.Code) > 256:
		return 0, api.ErrLong
	}
	for at, i := range f.Code {
		withN := slices.Contains([]int{1, 5, 6, 14, 15, 16}, i.Op)
		switch {
		case i.Op < 1 || i.Op > 19 || !withN && i.N != 0:
			return at, api.ErrOp
		case (i.Op == 5 || i.Op == 6) && (i.N < 0 || i.N >= f.Locals):
			return at, api.ErrLocal
		case (i.Op == 14 || i.Op == 15) && (i.N < 0 || i.N >= len(f.Code)):
			return at, api.ErrJump
		case i.Op == 16 && (i.N < 0 || i.N >= len(j.Funcs)):
			return at, api.ErrFunc
		}
	}
	return 0, api.OK
}

// slowEffect is what an instruction pops and pushes, and where it goes on.
func slowEffect(i api.Ins, at int, j api.Job) (pops, pushes int, next []int) {
	next = []int{at + 1}
	switch i.Op {
	case 1, 5:
		pushes = 1
	case 2, 6:
		pops = 1
	case 3:
		pops, pushes = 1, 2
	case 4:
		pops, pushes = 2, 2
	case 7, 8, 9, 10, 11, 12, 13:
		pops, pushes = 2, 1
	case 14:
		next = []int{i.N}
	case 15:
		pops, next = 1, []int{at + 1, i.N}
	case 16:
		pops, pushes = j.Funcs[i.N].Args, 1
	case 17:
		pops, pushes = 1, 1
	case 18, 19:
		pops, next = 1, nil
	}
	return pops, pushes, next
}

func slowDepths(j api.Job, k int) (int, api.Errno, []int) {
	c := j.Funcs[k].Code
	depths := slices.Repeat([]int{-1}, len(c))
	depths[0] = 0
	gone := map[int]bool{}
	for {
		at := 0
		for at < len(c) && (depths[at] < 0 || gone[at]) {
			at++
		}
		if at == len(c) {
			return 0, api.OK, depths
		}
		gone[at] = true
		pops, pushes, next := slowEffect(c[at], at, j)
		big1 := func(n int) *big.Int { return big.NewInt(int64(n)) }
		behind := new(big.Int).Add(new(big.Int).Sub(big1(depths[at]), big1(pops)), big1(pushes))
		if depths[at] < pops || behind.Cmp(big1(32)) > 0 {
			return at, api.ErrStack, nil
		}
		for _, to := range next {
			if to < 0 || to >= len(c) {
				return at, api.ErrJump, nil
			}
			if depths[to] < 0 {
				depths[to] = int(behind.Int64())
			}
			if big1(depths[to]).Cmp(behind) != 0 {
				return at, api.ErrStack, nil
			}
		}
	}
}

// maker makes jobs out of numbers: most of them nearly right.
type maker struct {
	number func(n int) int // one from 0 to n - 1
}

// odd is a number that stands out, now and then; n mostly.
func (m maker) odd(n int) int {
	if m.number(200) > 0 {
		return n
	}
	outs := []int{-1, 0, 1, 8, 9, 16, 17, 32, 33, 256, 500, 501, 5000, 5001, math.MinInt, math.MaxInt, math.MinInt + 1, n - 1, n + 1}
	return outs[m.number(len(outs))]
}

func (m maker) job() api.Job {
	j := api.Job{Fuel: m.odd(1 + m.number(5000)), Tasks: m.odd(1 + m.number(500))}
	funcs := 1 + m.number(4)
	for k := range funcs {
		f := api.Func{Name: fmt.Sprintf("f%d", m.odd(k)), Args: m.odd(m.number(3))}
		f.Locals = m.odd(f.Args + m.number(3))
		f.Code = m.code(f, funcs)
		j.Funcs = append(j.Funcs, f)
	}
	j.Main = m.number(funcs)
	if n := j.Funcs[j.Main].Args; n > 0 && n < 20 {
		j.Args = make([]int, n)
	}
	j.Main = m.odd(j.Main)
	return j
}

// code keeps to a depth of its own as it goes, so that much of it can be.
func (m maker) code(f api.Func, funcs int) []api.Ins {
	var out []api.Ins
	depth, long := 0, 1+m.number(14)
	for len(out) < long {
		i := api.Ins{Op: 1 + m.number(17)}
		switch i.Op {
		case api.Push:
			i.N = m.odd(m.number(9))
		case api.Load, api.Store:
			i.N = m.odd(m.number(max(1, f.Locals%20)))
		case api.Jump, api.Zero:
			i.N = m.odd(m.number(long + 2))
		case api.Spawn:
			i.N = m.odd(m.number(funcs))
		}
		if need := map[int]int{2: 1, 3: 1, 4: 2, 6: 1, 7: 2, 8: 2, 9: 2, 10: 2, 11: 2, 12: 2, 13: 2, 15: 1, 17: 1}[i.Op]; depth < need && m.number(50) > 0 {
			i = api.Ins{Op: api.Push}
		}
		if i.Op == api.Jump && m.number(3) > 0 {
			continue
		}
		pops, pushes, _ := slowEffect(api.Ins{Op: i.Op}, 0, api.Job{Funcs: make([]api.Func, 1)}) // as if spawns had no Args
		depth += pushes - pops
		out = append(out, i)
	}
	return append(out, api.Ins{Op: m.odd(api.Push)}, api.Ins{Op: m.odd(api.Ret)})
}

// sameAsSlow holds Check and Depths against slowCheck.
func sameAsSlow(t *testing.T, j api.Job) bool {
	t.Helper()
	want, depths := slowCheck(j)
	if got := tell(j); got != want {
		t.Errorf("P501: %v, not %v: %+v", got, want, j)
		return false
	}
	for f := -1; f <= len(j.Funcs); f++ {
		var w []int
		if f >= 0 && f < len(depths) {
			w = depths[f]
		}
		if got := check.Depths(j, f); !slices.Equal(got, w) {
			t.Errorf("P502: function %d: %v, not %v: %+v", f, got, w, j)
			return false
		}
	}
	return true
}

func TestP501Slow(t *testing.T) {
	r := rand.New(rand.NewSource(5))
	m := maker{r.Intn}
	seen := map[api.Errno]int{}
	for range 20000 {
		j := m.job()
		if !sameAsSlow(t, j) {
			return
		}
		seen[tell(j).e]++
	}
	for _, e := range []api.Errno{api.OK, api.ErrLimit, api.ErrFunc, api.ErrArgs, api.ErrName, api.ErrLocal, api.ErrOp, api.ErrJump, api.ErrStack} {
		if seen[e] < 20 {
			t.Errorf("the jobs that were made are of too few kinds: %v", seen)
		}
	}
}

// What is taken never runs out of the stack, and stands at the told depths, whichever way it goes.
func TestP502Ways(t *testing.T) {
	r := rand.New(rand.NewSource(6))
	m := maker{r.Intn}
	taken := 0
	for taken < 500 {
		j := m.job()
		if tell(j).e != api.OK {
			continue
		}
		taken++
		for f, x := range j.Funcs {
			depths := check.Depths(j, f)
			at, depth := 0, 0
			for range 100 {
				if depths[at] != depth {
					t.Fatalf("P502: function %d at %d: %d values, not %d: %+v", f, at, depth, depths[at], j)
				}
				pops, pushes, next := slowEffect(x.Code[at], at, j)
				if depth -= pops; depth < 0 || depth+pushes > api.MaxStack {
					t.Fatalf("P502: function %d at %d: the stack ran out: %+v", f, at, j)
				}
				depth += pushes
				if len(next) == 0 {
					break
				}
				at = next[r.Intn(len(next))]
			}
		}
	}
}

// All jobs that Check takes can be written down.
func TestP501Plain(t *testing.T) {
	m := maker{rand.New(rand.NewSource(7)).Intn}
	for range 5000 {
		if j := m.job(); tell(j).e == api.OK && !asm.Plain(j) {
			t.Fatalf("P501: taken, but asm does not take it: %+v", j)
		}
	}
}

func FuzzP501(f *testing.F) {
	f.Add([]byte("gleaner"))
	f.Add([]byte{1, 2, 3, 4, 5, 6, 7, 8, 9, 250, 251, 252, 253, 254, 255})
	f.Fuzz(func(t *testing.T, b []byte) {
		at := 0
		sameAsSlow(t, maker{func(n int) int {
			if at+1 >= len(b) {
				at += 2
				return (at * 7) % n
			}
			x := int(b[at])<<8 | int(b[at+1])
			at += 2
			return x % n
		}}.job())
	})
}

// roomy is j with spare room in all its lists, the spare room filled.
func roomy(j api.Job) api.Job {
	j.Args = append(slices.Clone(j.Args), 71, 72)[:len(j.Args)]
	j.Funcs = append(slices.Clone(j.Funcs), api.Func{Name: "spare", Code: []api.Ins{fail}})[:len(j.Funcs)]
	for k, f := range j.Funcs {
		j.Funcs[k].Code = append(slices.Clone(f.Code), fail, pop)[:len(f.Code)]
	}
	return j
}

// shown is all of a roomy job, its spare room too.
func shown(j api.Job) string {
	s := fmt.Sprint(j.Main, j.Fuel, j.Tasks, j.Args[:len(j.Args)+2], j.Funcs[:len(j.Funcs)+1])
	for _, f := range j.Funcs {
		s += fmt.Sprint(f.Code[:len(f.Code)+2])
	}
	return s
}

func TestP503HandedIn(t *testing.T) {
	for name, j := range map[string]api.Job{
		"taken":          pair(),
		"with a jump":    one(jump(2), pop, push, zero(0), jump(0)),
		"a wrong name":   pair(func(j *api.Job) { j.Funcs[1].Name = "one" }),
		"a wrong ins":    pair(func(j *api.Job) { j.Funcs[1].Code[3].N = 3 }),
		"a wrong depth":  pair(func(j *api.Job) { j.Funcs[1].Code[0] = pop }),
		"no end of code": one(push),
	} {
		j = roomy(j)
		before := shown(j)
		first := tell(j)
		check.Depths(j, 0)
		if after := shown(j); after != before {
			t.Errorf("P503: %s: what was handed in was changed: %s, not %s", name, after, before)
		}
		if again := tell(j); again != first {
			t.Errorf("P503: %s: %v, then %v", name, first, again)
		}
	}
}

func TestP503NewMemory(t *testing.T) {
	j := pair()
	want := check.Depths(j, 1)
	a, b := check.Depths(j, 1), check.Depths(j, 1)
	for _, l := range [][]int{a, b} {
		for k := range l[:cap(l)] {
			l[:cap(l)][k] = 99
		}
		if l = check.Depths(j, 1); !slices.Equal(l, want) {
			t.Errorf("P503: %v, not %v, when an earlier answer was written to", l, want)
		}
	}
	a[0] = 1
	if b[0] != 99 {
		t.Error("P503: two answers share memory")
	}
	kept := pair()
	d := check.Depths(kept, 0)
	was := slices.Clone(d)
	for k := range kept.Funcs[0].Code {
		kept.Funcs[0].Code[k] = api.Ins{}
	}
	if !slices.Equal(d, was) {
		t.Error("P503: an answer shares memory with what was handed in")
	}
	if got := tell(kept); got != (told{0, 0, api.ErrOp}) {
		t.Errorf("P503: %v: an earlier job was kept", got)
	}
}

func TestP503ArgumentsAlone(t *testing.T) {
	m := maker{rand.New(rand.NewSource(8)).Intn}
	var jobs []api.Job
	var want []told
	for range 300 {
		jobs = append(jobs, m.job())
		want = append(want, tell(jobs[len(jobs)-1]))
	}
	var all sync.WaitGroup
	for range 8 {
		all.Go(func() {
			for k, j := range jobs {
				if got := tell(j); got != want[k] {
					t.Errorf("P503: %v, then %v: %+v", want[k], got, j)
				}
				check.Depths(j, 0)
			}
		})
	}
	all.Wait()
}
