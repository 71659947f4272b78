package code_test

import (
	"math"
	"math/rand"
	"slices"
	"strings"
	"sync"
	"testing"

	"gleaner/api"
	"gleaner/code"
)

// row is an instruction as the chapter words it; pops of spawn hang on its function, and are -1 here.
type row struct {
	op           int
	word         string
	hasN         bool
	pops, pushes int
}

func rows() []row {
	return []row{
		{1, "push", true, 0, 1},
		{2, "pop", false, 1, 0},
		{3, "dup", false, 1, 2},
		{4, "swap", false, 2, 2},
		{5, "load", true, 0, 1},
		{6, "store", true, 1, 0},
		{7, "add", false, 2, 1},
		{8, "sub", false, 2, 1},
		{9, "mul", false, 2, 1},
		{10, "div", false, 2, 1},
		{11, "mod", false, 2, 1},
		{12, "lt", false, 2, 1},
		{13, "eq", false, 2, 1},
		{14, "jump", true, 0, 0},
		{15, "zero", true, 1, 0},
		{16, "spawn", true, -1, 1},
		{17, "await", false, 1, 1},
		{18, "ret", false, 1, 0},
		{19, "fail", false, 1, 0},
	}
}

// noOps are numbers that are no instruction's.
func noOps() []int {
	return []int{0, -1, -16, -19, 20, 21, 256 + 1, 1 << 32, 1<<32 + 16, 1 << 62, math.MaxInt, math.MinInt, math.MinInt + 1}
}

// someNs are Ns, places and Args at the edges.
func someNs() []int {
	return []int{0, 1, -1, 2, 3, 4, 5, 8, 9, 255, 256, 257, -256, math.MaxInt - 1, math.MaxInt, math.MinInt, math.MinInt + 1}
}

// slowNext says where an instruction goes on, as P302 words it.
func slowNext(op, n, at int) []int {
	if op < 1 || op > 19 || op == 18 || op == 19 {
		return nil
	}
	if op == 14 {
		return []int{n}
	}
	out := []int{at + 1}
	if op == 15 && !slices.Contains(out, n) {
		out = append(out, n)
	}
	return out
}

func TestP301NameAndOp(t *testing.T) {
	for _, x := range rows() {
		if got := code.Name(x.op); got != x.word {
			t.Errorf("P301: Name(%d): %q, not %q", x.op, got, x.word)
		}
		if op, ok := code.Op(x.word); op != x.op || !ok {
			t.Errorf("P301: Op(%q): %d %v, not %d", x.word, op, ok, x.op)
		}
	}
}

func TestP301ByTheNumbersOfApi(t *testing.T) {
	for word, op := range map[string]int{
		"push": api.Push, "pop": api.Pop, "dup": api.Dup, "swap": api.Swap, "load": api.Load, "store": api.Store,
		"add": api.Add, "sub": api.Sub, "mul": api.Mul, "div": api.Div, "mod": api.Mod, "lt": api.Lt, "eq": api.Eq,
		"jump": api.Jump, "zero": api.Zero, "spawn": api.Spawn, "await": api.Await, "ret": api.Ret, "fail": api.Fail,
	} {
		if got, ok := code.Op(word); got != op || !ok || code.Name(op) != word {
			t.Errorf("P301: %q: Op %d %v, Name of %d %q", word, got, ok, op, code.Name(op))
		}
	}
}

func TestP301HasN(t *testing.T) {
	for _, x := range rows() {
		if got := code.HasN(x.op); got != x.hasN {
			t.Errorf("P301: HasN of %s: %v", x.word, got)
		}
	}
}

func TestP301NoInstruction(t *testing.T) {
	for _, op := range noOps() {
		if code.Name(op) != "" || code.HasN(op) {
			t.Errorf("P301: %d: Name %q, HasN %v", op, code.Name(op), code.HasN(op))
		}
	}
	for op := -300; op <= 300; op++ {
		if is := op >= 1 && op <= 19; is != (code.Name(op) != "") || !is && code.HasN(op) {
			t.Errorf("P301: %d: Name %q, HasN %v", op, code.Name(op), code.HasN(op))
		}
	}
}

func TestP301NoWord(t *testing.T) {
	words := []string{"", " ", "\x00", "\n", "0", "1", "nop", "call", "load1", "push 5", "addsub", "\xff", "pu\x00sh", "ſwap", "ＡＤＤ"}
	for _, x := range rows() {
		words = append(words, strings.ToUpper(x.word), strings.ToUpper(x.word[:1])+x.word[1:], x.word[1:], x.word[:len(x.word)-1]+"?", x.word+"x", x.word+" ", " "+x.word, x.word+"\x00", x.word+"\n", x.word+x.word)
		if w := x.word[:len(x.word)-1]; w != "" {
			words = append(words, w)
		}
	}
	for _, w := range words {
		if op, ok := code.Op(w); op != 0 || ok {
			t.Errorf("P301: Op(%q): %d %v", w, op, ok)
		}
	}
}

func TestP302Pops(t *testing.T) {
	f := []api.Func{{Args: 5}, {Args: 6}, {Args: 7}}
	for _, x := range rows() {
		if x.op == api.Spawn {
			continue
		}
		for _, n := range someNs() {
			i := api.Ins{Op: x.op, N: n}
			if with, without := code.Pops(i, f...), code.Pops(i); with != x.pops || without != x.pops {
				t.Errorf("P302: Pops of %s %d: %d, without functions %d, not %d", x.word, n, with, without, x.pops)
			}
		}
	}
}

func TestP302PopsOfSpawn(t *testing.T) {
	f := []api.Func{{Name: "first", Args: 8}}
	for _, n := range someNs() {
		f = append(f, api.Func{Name: "f", Args: n, Locals: 99})
	}
	for n, x := range f { // also Args that no job may have: it is check that refuses them
		if got := code.Pops(api.Ins{Op: api.Spawn, N: n}, f...); got != x.Args {
			t.Errorf("P302: Pops of spawn %d: %d, not %d", n, got, x.Args)
		}
	}
	if got := code.Pops(api.Ins{Op: api.Spawn, N: 1}, api.Func{Args: 3}, api.Func{Args: 4}); got != 4 {
		t.Errorf("P302: Pops of spawn 1, the functions one by one: %d, not 4", got)
	}
}

func TestP302PopsOfSpawnOfNoFunction(t *testing.T) {
	f := []api.Func{{Args: 1}, {Args: 2}, {Args: 3}, {Args: 4}}
	for _, n := range []int{-1, -2, 3, 4, 5, 1 << 32, 1<<32 + 1, math.MaxInt, math.MinInt} {
		if got := code.Pops(api.Ins{Op: api.Spawn, N: n}, f[:3]...); got != 0 { // f[3] is spare room
			t.Errorf("P302: Pops of spawn %d among three functions: %d", n, got)
		}
	}
	for _, n := range someNs() {
		var none []api.Func
		i := api.Ins{Op: api.Spawn, N: n}
		if code.Pops(i) != 0 || code.Pops(i, none...) != 0 || code.Pops(i, []api.Func{}...) != 0 {
			t.Errorf("P302: Pops of spawn %d among no functions: %d", n, code.Pops(i))
		}
	}
}

func TestP302Pushes(t *testing.T) {
	for _, x := range rows() {
		for _, n := range someNs() {
			if got := code.Pushes(api.Ins{Op: x.op, N: n}); got != x.pushes {
				t.Errorf("P302: Pushes of %s %d: %d, not %d", x.word, n, got, x.pushes)
			}
		}
	}
}

func TestP302NoInstruction(t *testing.T) {
	f := []api.Func{{Args: 5}, {Args: 6}, {Args: 7}}
	for _, op := range noOps() {
		for _, n := range someNs() {
			i := api.Ins{Op: op, N: n}
			if code.Pops(i, f...) != 0 || code.Pushes(i) != 0 || len(code.Next(i, 1)) != 0 {
				t.Errorf("P302: %v: Pops %d, Pushes %d, Next %v", i, code.Pops(i, f...), code.Pushes(i), code.Next(i, 1))
			}
		}
	}
}

func TestP302NextExamples(t *testing.T) {
	for _, x := range []struct {
		i    api.Ins
		at   int
		want []int
	}{
		{api.Ins{Op: api.Zero, N: 9}, 4, []int{5, 9}},
		{api.Ins{Op: api.Zero, N: 2}, 4, []int{5, 2}},
		{api.Ins{Op: api.Zero, N: 4}, 4, []int{5, 4}},
		{api.Ins{Op: api.Zero, N: 5}, 4, []int{5}},
		{api.Ins{Op: api.Zero, N: -1}, -2, []int{-1}},
		{api.Ins{Op: api.Zero, N: math.MinInt}, math.MaxInt, []int{math.MinInt}},
		{api.Ins{Op: api.Jump, N: 9}, 4, []int{9}},
		{api.Ins{Op: api.Jump, N: 4}, 4, []int{4}},
		{api.Ins{Op: api.Jump, N: 5}, 4, []int{5}},
		{api.Ins{Op: api.Jump, N: -7}, 4, []int{-7}},
		{api.Ins{Op: api.Push, N: 9}, 4, []int{5}},
		{api.Ins{Op: api.Spawn, N: 9}, 4, []int{5}},
		{api.Ins{Op: api.Await}, 4, []int{5}},
		{api.Ins{Op: api.Ret}, 4, nil},
		{api.Ins{Op: api.Fail, N: 9}, 4, nil},
	} {
		if got := code.Next(x.i, x.at); !slices.Equal(got, x.want) {
			t.Errorf("P302: Next of %v at %d: %v, not %v", x.i, x.at, got, x.want)
		}
	}
}

func TestP302NextOfEach(t *testing.T) {
	for op := -3; op <= 23; op++ {
		for _, n := range someNs() {
			for _, at := range someNs() {
				if got, want := code.Next(api.Ins{Op: op, N: n}, at), slowNext(op, n, at); !slices.Equal(got, want) {
					t.Errorf("P302: Next of %d %d at %d: %v, not %v", op, n, at, got, want)
				}
			}
		}
	}
}

func TestP303ArgumentsStayAsTheyAre(t *testing.T) {
	room := []api.Func{
		{Name: "a", Args: 1, Locals: 2, Code: []api.Ins{{Op: api.Push, N: 5}, {Op: api.Ret}}},
		{Name: "b", Args: 2, Locals: 3, Code: []api.Ins{{Op: api.Spawn, N: 1}}},
		{Name: "c", Args: 3, Locals: 4},
	}
	was := slices.Clone(room)
	for k := range was {
		was[k].Code = slices.Clone(room[k].Code)
	}
	for _, x := range rows() {
		for n := -1; n <= 3; n++ {
			code.Pops(api.Ins{Op: x.op, N: n}, room[:2]...)
		}
	}
	for k, x := range room {
		if x.Name != was[k].Name || x.Args != was[k].Args || x.Locals != was[k].Locals || !slices.Equal(x.Code, was[k].Code) {
			t.Errorf("P303: function %d is now %v", k, x)
		}
	}
}

func TestP303NothingIsKept(t *testing.T) {
	f := []api.Func{{Args: 1}, {Args: 2}}
	i := api.Ins{Op: api.Spawn, N: 1}
	if got := code.Pops(i, f...); got != 2 {
		t.Errorf("P303: Pops: %d, not 2", got)
	}
	f[1].Args = 6
	if got := code.Pops(i, f...); got != 6 {
		t.Errorf("P303: Pops of a function that was changed: %d, not 6", got)
	}
	if got := code.Pops(i); got != 0 {
		t.Errorf("P303: Pops of functions of an earlier call: %d", got)
	}
}

func TestP303NextIsNewMemory(t *testing.T) {
	for _, i := range []api.Ins{{Op: api.Zero, N: 9}, {Op: api.Zero, N: 5}, {Op: api.Jump, N: 9}, {Op: api.Add}, {Op: api.Spawn, N: 1}} {
		first, second := code.Next(i, 4), code.Next(i, 4)
		for k := range first {
			first[k] = 77
		}
		for spare := range cap(first) {
			first[:cap(first)][spare] = 78
		}
		want := slowNext(i.Op, i.N, 4)
		if !slices.Equal(second, want) || !slices.Equal(code.Next(i, 4), want) {
			t.Errorf("P303: Next of %v hangs on what was done with another answer: %v %v", i, second, code.Next(i, 4))
		}
	}
}

func TestP303AnswersHangOnArgumentsAlone(t *testing.T) {
	var calls sync.WaitGroup
	for k := range 8 {
		r := rand.New(rand.NewSource(int64(300 + k)))
		calls.Go(func() {
			for range 500 {
				x := rows()[r.Intn(19)]
				i, at := api.Ins{Op: x.op, N: r.Intn(9)}, r.Intn(9)
				op, ok := code.Op(x.word)
				if op != x.op || !ok || code.Name(x.op) != x.word || code.HasN(x.op) != x.hasN || code.Pushes(i) != x.pushes || !slices.Equal(code.Next(i, at), slowNext(i.Op, i.N, at)) {
					t.Errorf("P303: what is told of %v at %d hangs on other calls", i, at)
					return
				}
			}
		})
	}
	calls.Wait()
}

func FuzzP301(f *testing.F) {
	f.Add("push", 1)
	f.Add("", 0)
	f.Fuzz(func(t *testing.T, word string, op int) {
		k := slices.IndexFunc(rows(), func(x row) bool { return x.word == word })
		if got, ok := code.Op(word); got != k+1 || ok != (k >= 0) {
			t.Errorf("P301: Op(%q): %d %v, not %d", word, got, ok, k+1)
		}
		if name := code.Name(op); name != "" {
			if got, ok := code.Op(name); got != op || !ok {
				t.Errorf("P301: Op(Name(%d)): %d %v", op, got, ok)
			}
		}
	})
}

func FuzzP302(f *testing.F) {
	f.Add(15, 9, 4, 3)
	f.Add(16, 1, 0, -2)
	f.Fuzz(func(t *testing.T, op, n, at, args int) {
		i := api.Ins{Op: op, N: n}
		pops, pushes := 0, 0
		if op >= 1 && op <= 19 {
			pops, pushes = rows()[op-1].pops, rows()[op-1].pushes
		}
		if op == 16 && n == 1 {
			pops = args
		} else if op == 16 {
			pops = 0
		}
		if got := code.Pops(i, api.Func{}, api.Func{Args: args}); got != pops {
			t.Errorf("P302: Pops of %v: %d, not %d", i, got, pops)
		}
		if got := code.Pushes(i); got != pushes {
			t.Errorf("P302: Pushes of %v: %d, not %d", i, got, pushes)
		}
		if got, want := code.Next(i, at), slowNext(op, n, at); !slices.Equal(got, want) {
			t.Errorf("P302: Next of %v at %d: %v, not %v", i, at, got, want)
		}
	})
}
