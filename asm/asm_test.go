package asm_test

import (
	"fmt"
	"math"
	"math/rand"
	"regexp"
	"slices"
	"strconv"
	"strings"
	"sync"
	"testing"
	"unsafe"

	"gleaner/api"
	"gleaner/asm"
	"gleaner/code"
)

// five is the chapter's example.
const five = "job 9 1\nmain f\nfunc f 0 0\n  push 5\n  ret\nend\n"

// pair has a spawn of a function that comes later, one of a function ahead, and a main that is not the first function.
const pair = "job 100 9\nmain two 3 -4\nfunc one 2 3\n  load 0\n  load 1\n  spawn two\n  await\n  ret\nfunc two 2 2\n  push 0\n  push -7\n  spawn one\n  await\n  fail\nend\n"

func fiveJob() api.Job {
	return api.Job{Fuel: 9, Tasks: 1, Funcs: []api.Func{{Name: "f", Code: []api.Ins{{Op: api.Push, N: 5}, {Op: api.Ret}}}}}
}

func pairJob() api.Job {
	return api.Job{Fuel: 100, Tasks: 9, Main: 1, Args: []int{3, -4}, Funcs: []api.Func{
		{Name: "one", Args: 2, Locals: 3, Code: []api.Ins{{Op: api.Load, N: 0}, {Op: api.Load, N: 1}, {Op: api.Spawn, N: 1}, {Op: api.Await}, {Op: api.Ret}}},
		{Name: "two", Args: 2, Locals: 2, Code: []api.Ins{{Op: api.Push, N: 0}, {Op: api.Push, N: -7}, {Op: api.Spawn, N: 0}, {Op: api.Await}, {Op: api.Fail}}},
	}}
}

func sameJob(a, b api.Job) bool {
	return a.Main == b.Main && a.Fuel == b.Fuel && a.Tasks == b.Tasks && slices.Equal(a.Args, b.Args) && slices.EqualFunc(a.Funcs, b.Funcs, func(x, y api.Func) bool {
		return x.Name == y.Name && x.Args == y.Args && x.Locals == y.Locals && slices.Equal(x.Code, y.Code)
	})
}

func noJob(j api.Job) bool {
	return j.Main == 0 && j.Fuel == 0 && j.Tasks == 0 && len(j.Args) == 0 && len(j.Funcs) == 0
}

func copyJob(j api.Job) api.Job {
	j.Args = slices.Clone(j.Args)
	j.Funcs = slices.Clone(j.Funcs)
	for k := range j.Funcs {
		j.Funcs[k].Code = slices.Clone(j.Funcs[k].Code)
	}
	return j
}

// funcNames makes n names, no two of one.
func funcNames(n int) []string {
	var out []string
	for k := range n {
		out = append(out, "f"+strconv.Itoa(k))
	}
	return out
}

// manyFuncs is a job of n functions without code.
func manyFuncs(n int) api.Job {
	var j api.Job
	for _, name := range funcNames(n) {
		j.Funcs = append(j.Funcs, api.Func{Name: name})
	}
	return j
}

// oneCode is a job of one function with that code.
func oneCode(c ...api.Ins) api.Job {
	return api.Job{Funcs: []api.Func{{Name: "f", Code: c}}}
}

// slowPlain asks all that P401 asks of j, thing by thing.
func slowPlain(j api.Job) bool {
	name := regexp.MustCompile(`\A[a-z][a-z0-9]{0,19}\z`)
	ok := len(j.Funcs) <= 32 && len(j.Args) <= 8 && 0 <= j.Main && j.Main < len(j.Funcs)
	times := map[string]int{}
	for _, f := range j.Funcs {
		times[f.Name]++
		ok = ok && name.MatchString(f.Name) && times[f.Name] == 1 && len(f.Code) <= 256
		for _, i := range f.Code {
			switch i.Op {
			case 1, 5, 6, 14, 15:
			case 2, 3, 4, 7, 8, 9, 10, 11, 12, 13, 17, 18, 19:
				ok = ok && i.N == 0
			case 16:
				ok = ok && 0 <= i.N && i.N < len(j.Funcs)
			default:
				ok = false
			}
		}
	}
	return ok
}

// slowPrint writes a Plain j as the chapter shows it.
func slowPrint(j api.Job) string {
	s := fmt.Sprintf("job %d %d\nmain %s", j.Fuel, j.Tasks, j.Funcs[j.Main].Name)
	for _, a := range j.Args {
		s += fmt.Sprintf(" %d", a)
	}
	s += "\n"
	for _, f := range j.Funcs {
		s += fmt.Sprintf("func %s %d %d\n", f.Name, f.Args, f.Locals)
		for _, i := range f.Code {
			switch {
			case i.Op == 16:
				s += fmt.Sprintf("  spawn %s\n", j.Funcs[i.N].Name)
			case slices.Contains([]int{1, 5, 6, 14, 15}, i.Op):
				s += fmt.Sprintf("  %s %d\n", code.Name(i.Op), i.N)
			default:
				s += fmt.Sprintf("  %s\n", code.Name(i.Op))
			}
		}
	}
	return s + "end\n"
}

// The shapes of lines; whether a number is one of Go's ints is asked apart.
var (
	jobShape   = regexp.MustCompile(`\Ajob( (0|-?[1-9][0-9]*)){2}\z`)
	mainShape  = regexp.MustCompile(`\Amain ([a-z][a-z0-9]{0,19})( (0|-?[1-9][0-9]*)){0,8}\z`)
	funcShape  = regexp.MustCompile(`\Afunc ([a-z][a-z0-9]{0,19})( (0|-?[1-9][0-9]*)){2}\z`)
	plainShape = regexp.MustCompile(`\A  (pop|dup|swap|add|sub|mul|div|mod|lt|eq|await|ret|fail)\z`)
	withShape  = regexp.MustCompile(`\A  (push|load|store|jump|zero) (0|-?[1-9][0-9]*)\z`)
	spawnShape = regexp.MustCompile(`\A  spawn ([a-z][a-z0-9]{0,19})\z`)
	anyNumber  = regexp.MustCompile(` -?[0-9]+`)
)

// fits tells whether all numbers of a line are ints.
func fits(line string) bool {
	for _, n := range anyNumber.FindAllString(line, -1) {
		if _, err := strconv.ParseInt(n[1:], 10, 64); err != nil {
			return false
		}
	}
	return true
}

// slowWrong answers the number of the first line at which s goes wrong, by the shapes of lines; 0: at none. (s is not too long.)
func slowWrong(s string) int {
	lines := strings.SplitAfter(s, "\n") // a piece without a byte 10 is the last one, which may be empty
	funcs, code := map[string]bool{}, 0
	type use struct {
		name string
		line int
	}
	var uses []use
	for k, l := range lines {
		n := k + 1
		body, whole := strings.CutSuffix(l, "\n")
		if !whole || !fits(body) {
			return n
		}
		switch {
		case n == 1:
			if !jobShape.MatchString(body) {
				return n
			}
		case n == 2:
			m := mainShape.FindStringSubmatch(body)
			if m == nil {
				return n
			}
			uses = append(uses, use{m[1], n})
		case body == "end":
			if n != len(lines)-1 || lines[n] != "" {
				return n + 1
			}
			for _, u := range uses {
				if !funcs[u.name] {
					return u.line
				}
			}
			return 0
		case funcShape.MatchString(body):
			name := funcShape.FindStringSubmatch(body)[1]
			if funcs[name] || len(funcs) == 32 {
				return n
			}
			funcs[name], code = true, 0
		case plainShape.MatchString(body), withShape.MatchString(body), spawnShape.MatchString(body):
			if code++; len(funcs) == 0 || code > 256 {
				return n
			}
			if m := spawnShape.FindStringSubmatch(body); m != nil {
				uses = append(uses, use{m[1], n})
			}
		default:
			return n
		}
	}
	panic("a piece without a byte 10 is always there")
}

// edgeInts are numbers at the edges.
func edgeInts() []int {
	return []int{0, 1, -1, 9, 10, -10, 99, 100, 255, 256, 1 << 31, 1<<32 - 1, -1 << 31, math.MaxInt - 1, math.MaxInt, math.MinInt + 1, math.MinInt}
}

func someInt(r *rand.Rand) int {
	if r.Intn(3) == 0 {
		return edgeInts()[r.Intn(len(edgeInts()))]
	}
	return r.Intn(41) - 20
}

func someName(r *rand.Rand) string {
	const first, all = "abcdefghijklmnopqrstuvwxyz", "abcdefghijklmnopqrstuvwxyz0123456789"
	b := []byte{first[r.Intn(len(first))]}
	for range r.Intn(api.MaxName) {
		b = append(b, all[r.Intn(len(all))])
	}
	return string(b)
}

// someJob makes a Plain job.
func someJob(r *rand.Rand, funcs, ins int) api.Job {
	j := api.Job{Fuel: someInt(r), Tasks: someInt(r)}
	for range r.Intn(api.MaxArgs + 1) {
		j.Args = append(j.Args, someInt(r))
	}
	taken := map[string]bool{}
	for range 1 + r.Intn(funcs) {
		f := api.Func{Name: someName(r), Args: someInt(r), Locals: someInt(r)}
		for taken[f.Name] {
			f.Name = someName(r)
		}
		taken[f.Name] = true
		j.Funcs = append(j.Funcs, f)
	}
	j.Main = r.Intn(len(j.Funcs))
	for k := range j.Funcs {
		for range r.Intn(ins + 1) {
			i := api.Ins{Op: 1 + r.Intn(19)}
			if i.Op == api.Spawn {
				i.N = r.Intn(len(j.Funcs))
			} else if code.HasN(i.Op) {
				i.N = someInt(r)
			}
			j.Funcs[k].Code = append(j.Funcs[k].Code, i)
		}
	}
	return j
}

// checkRead holds what Read answers of s against the shapes of lines and against Print.
func checkRead(t *testing.T, s string) {
	t.Helper()
	j, n, e := asm.Read(s)
	if len(s) > api.MaxText {
		if !noJob(j) || n != 0 || e != api.ErrLong {
			t.Fatalf("P401: %d bytes: line %d, error %d", len(s), n, e)
		}
		return
	}
	want := slowWrong(s)
	if want == 0 {
		if e != api.OK || n != 0 || !asm.Plain(j) || asm.Print(j) != s {
			t.Fatalf("P401: %q is a text: line %d, error %d, %+v, which prints %q", s, n, e, j, asm.Print(j))
		}
		return
	}
	if e != api.ErrSyntax || n != want || !noJob(j) {
		t.Fatalf("P401: %q: line %d, not %d, error %d, %+v", s, n, want, e, j)
	}
}

// checkPlain holds Plain and Print of j against what the chapter asks.
func checkPlain(t *testing.T, j api.Job) {
	t.Helper()
	want, text := slowPlain(j), ""
	if want {
		text = slowPrint(j)
	}
	if got := asm.Plain(j); got != want {
		t.Fatalf("P401: Plain of %+v: %v", j, got)
	}
	if got := asm.Print(j); got != text {
		t.Fatalf("P401: Print of %+v: %q, not %q", j, got, text)
	}
}

func TestP401Examples(t *testing.T) {
	for text, want := range map[string]api.Job{five: fiveJob(), pair: pairJob()} {
		j, n, e := asm.Read(text)
		if e != api.OK || n != 0 || !sameJob(j, want) {
			t.Errorf("P401: Read(%q): %+v, line %d, error %d", text, j, n, e)
		}
		if !asm.Plain(want) || asm.Print(want) != text {
			t.Errorf("P401: Print: %v %q, not %q", asm.Plain(want), asm.Print(want), text)
		}
	}
}

func TestP401EveryInstruction(t *testing.T) {
	var c []api.Ins
	text := "job 1 2\nmain f\nfunc f 3 4\n"
	for op := api.Push; op <= api.Fail; op++ {
		i := api.Ins{Op: op}
		text += "  " + code.Name(op)
		switch {
		case op == api.Spawn:
			text += " f"
		case code.HasN(op):
			i.N = -op
			text += " " + strconv.Itoa(-op)
		}
		text += "\n"
		c = append(c, i)
	}
	text += "end\n"
	j := oneCode(c...)
	j.Fuel, j.Tasks, j.Funcs[0].Args, j.Funcs[0].Locals = 1, 2, 3, 4
	if got := asm.Print(j); got != text {
		t.Errorf("P401: Print: %q, not %q", got, text)
	}
	if got, n, e := asm.Read(text); e != api.OK || n != 0 || !sameJob(got, j) {
		t.Errorf("P401: Read: %+v, line %d, error %d", got, n, e)
	}
}

func TestP401PlainNames(t *testing.T) {
	good := []string{"a", "z", "f", "a0", "z9", "end", "func", "job", "main", "spawn", "push", "x1y2", strings.Repeat("a", api.MaxName), "q" + strings.Repeat("0", api.MaxName-1)}
	bad := []string{"", "A", "aA", "0", "9a", "a_b", "a-b", "a b", " a", "a ", "a\n", "\na", "a\x00", "ä", "aä", "\xff", "a\xff", "`", "a`", "{", "a{", "a/", "a:", "-a", "a.", strings.Repeat("a", api.MaxName+1), strings.Repeat("a", 300)}
	for _, name := range good {
		for k := range 2 {
			j := pairJob()
			j.Funcs[k].Name = name
			checkPlain(t, j)
			if !asm.Plain(j) {
				t.Errorf("P401: %q is a name", name)
			}
			checkRead(t, asm.Print(j))
		}
	}
	for _, name := range bad {
		for k := range 2 {
			j := pairJob()
			j.Funcs[k].Name = name
			checkPlain(t, j)
			if asm.Plain(j) {
				t.Errorf("P401: %q is no name", name)
			}
		}
	}
	for c := range 256 {
		j := pairJob()
		j.Funcs[0].Name = string([]byte{byte(c)})
		checkPlain(t, j)
		j.Funcs[0].Name = string([]byte{'a', byte(c)})
		checkPlain(t, j)
	}
}

func TestP401PlainTwice(t *testing.T) {
	for _, at := range [][2]int{{0, 1}, {0, 31}, {30, 31}, {7, 20}} {
		j := manyFuncs(32)
		if !asm.Plain(j) {
			t.Error("P401: 32 functions")
		}
		j.Funcs[at[1]].Name = j.Funcs[at[0]].Name
		if asm.Plain(j) || asm.Print(j) != "" {
			t.Errorf("P401: functions %v have one name", at)
		}
	}
}

func TestP401PlainMany(t *testing.T) {
	for _, n := range []int{1, 2, 31, 32, 33, 34, 64, 300} {
		j := manyFuncs(n)
		checkPlain(t, j)
		if asm.Plain(j) != (n <= api.MaxFuncs) {
			t.Errorf("P401: %d functions", n)
		}
	}
	for _, n := range []int{0, 1, 255, 256, 257, 512, 3000} {
		for k := range 2 {
			j := pairJob()
			j.Funcs[k].Code = slices.Repeat([]api.Ins{{Op: api.Ret}}, n)
			checkPlain(t, j)
			if asm.Plain(j) != (n <= api.MaxCode) {
				t.Errorf("P401: %d instructions", n)
			}
		}
	}
	for n := range 20 {
		j := pairJob()
		j.Args = make([]int, n)
		checkPlain(t, j)
		if asm.Plain(j) != (n <= api.MaxArgs) {
			t.Errorf("P401: %d Args", n)
		}
	}
}

func TestP401PlainMain(t *testing.T) {
	for _, n := range append(edgeInts(), 2, 3, 32, 33) {
		j := pairJob()
		j.Main = n
		checkPlain(t, j)
		if asm.Plain(j) != (n == 0 || n == 1) {
			t.Errorf("P401: Main %d of 2", n)
		}
	}
	if asm.Plain(api.Job{}) || asm.Print(api.Job{}) != "" || asm.Plain(api.Job{Fuel: 1, Tasks: 1, Args: []int{1}}) {
		t.Error("P401: a job without functions")
	}
}

func TestP401PlainInstructions(t *testing.T) {
	for _, op := range append(edgeInts(), 2, 3, 4, 5, 6, 7, 8, 11, 12, 13, 14, 15, 16, 17, 18, 19, 20, 21, -16, 256+16) {
		for _, n := range append(edgeInts(), 2) {
			j := pairJob()
			j.Funcs[1].Code[4] = api.Ins{Op: op, N: n}
			checkPlain(t, j)
			j = oneCode(api.Ins{Op: op, N: n})
			checkPlain(t, j)
		}
	}
}

func TestP401PlainAnyNumbers(t *testing.T) {
	for _, n := range edgeInts() {
		j := pairJob()
		j.Fuel, j.Tasks, j.Args[0], j.Funcs[0].Args, j.Funcs[1].Locals, j.Funcs[0].Code[0].N = n, n, n, n, n, n
		checkPlain(t, j)
		if !asm.Plain(j) {
			t.Errorf("P401: %d is a number", n)
		}
	}
}

func TestP401ReadNumbers(t *testing.T) {
	good := []string{"0", "1", "-1", "10", "-10", "9223372036854775807", "-9223372036854775808"}
	bad := []string{"", "-", "+", "+0", "+1", "-0", "00", "01", "-01", "--1", "1-", "0x1", "1e3", "1_000", "1.0", "1,", "a", "f", "９", "1\t", "\t1", "1\r", "1\x00", "1  2", "9223372036854775808", "-9223372036854775809", "18446744073709551616", "99999999999999999999999999999999"}
	places := []struct {
		ahead, behind string
		line          int
	}{
		{"job ", " 1\nmain f\nfunc f 0 0\nend\n", 1},
		{"job 1 ", "\nmain f\nfunc f 0 0\nend\n", 1},
		{"job 1 1\nmain f ", "\nfunc f 0 0\nend\n", 2},
		{"job 1 1\nmain f 4 ", " 5\nfunc f 0 0\nend\n", 2},
		{"job 1 1\nmain f\nfunc f ", " 0\nend\n", 3},
		{"job 1 1\nmain f\nfunc f 0 ", "\nend\n", 3},
		{"job 1 1\nmain f\nfunc f 0 0\n  push ", "\nend\n", 4},
		{"job 1 1\nmain f\nfunc f 0 0\n  pop\n  zero ", "\nend\n", 5},
	}
	for _, p := range places {
		for _, n := range good {
			s := p.ahead + n + p.behind
			checkRead(t, s)
			if j, _, e := asm.Read(s); e != api.OK || asm.Print(j) != s {
				t.Errorf("P401: %q in %q: error %d", n, s, e)
			}
		}
		for _, n := range bad {
			s := p.ahead + n + p.behind
			checkRead(t, s)
			if j, line, e := asm.Read(s); e != api.ErrSyntax || line != p.line || !noJob(j) {
				t.Errorf("P401: %q in %q: line %d, error %d", n, s, line, e)
			}
		}
	}
}

func TestP401ReadWrongLines(t *testing.T) {
	for _, x := range []struct {
		text string
		line int
	}{
		{"", 1}, {"\n", 1}, {"x", 1}, {"job 1 1", 1}, {"end\n", 1}, {" job 1 1\n", 1}, {"Job 1 1\n", 1}, {"job\n", 1}, {"job \n", 1}, {"job 1\n", 1}, {"job 1 \n", 1}, {"job 1 1 1\n", 1}, {"job  1 1\n", 1}, {"job 1  1\n", 1}, {"job\t1 1\n", 1}, {"job 1 1\r\n", 1}, {"main f\njob 1 1\n", 1}, {"main 1 1\n", 1}, {"\xef\xbb\xbfjob 1 1\n", 1},
		{"job 1 1\n", 2}, {"job 1 1\n\n", 2}, {"job 1 1\nmain f", 2}, {"job 1 1\nmain\n", 2}, {"job 1 1\nmain \n", 2}, {"job 1 1\nmain f \n", 2}, {"job 1 1\nmain  f\n", 2}, {"job 1 1\nmain f x\n", 2}, {"job 1 1\nmain 1\n", 2}, {"job 1 1\nmain F\n", 2}, {"job 1 1\nmain f,1\n", 2}, {"job 1 1\njob 1 1\n", 2}, {"job 1 1\nfunc f 0 0\n", 2}, {"job 1 1\nend\n", 2}, {"job 1 1\nfunc f\n", 2}, {"job 1 1\nmain " + strings.Repeat("a", 21) + "\n", 2},
		{"job 1 1\nmain f\n", 3}, {"job 1 1\nmain f\n\n", 3}, {"job 1 1\nmain f\nfunc f 0 0", 3}, {"job 1 1\nmain f\n  ret\n", 3}, {"job 1 1\nmain f\nmain f\n", 3}, {"job 1 1\nmain f\nfunc f\n", 3}, {"job 1 1\nmain f\nfunc f 0\n", 3}, {"job 1 1\nmain f\nfunc f 0 0 0\n", 3}, {"job 1 1\nmain f\nfunc f 0 0 \n", 3}, {"job 1 1\nmain f\nfunc  f 0 0\n", 3}, {"job 1 1\nmain f\n func f 0 0\n", 3}, {"job 1 1\nmain f\n  func f 0 0\n", 3}, {"job 1 1\nmain f\nfunc 0 0\n", 3}, {"job 1 1\nmain f\nfunc 0 0 0\n", 3}, {"job 1 1\nmain f\nfun f 0 0\n", 3}, {"job 1 1\nmain f\nend", 3}, {"job 1 1\nmain f\nend \n", 3}, {"job 1 1\nmain f\n end\n", 3}, {"job 1 1\nmain f\nends\n", 3}, {"job 1 1\nmain f\nend 0\n", 3},
		{"job 1 1\nmain f\nfunc f 0 0\n", 4}, {"job 1 1\nmain f\nfunc f 0 0\nend", 4}, {"job 1 1\nmain f\nfunc f 0 0\n\nend\n", 4}, {"job 1 1\nmain f\nfunc f 0 0\n  end\n", 4}, {"job 1 1\nmain f\nfunc f 0 0\nret\nend\n", 4}, {"job 1 1\nmain f\nfunc f 0 0\n ret\nend\n", 4}, {"job 1 1\nmain f\nfunc f 0 0\n   ret\nend\n", 4}, {"job 1 1\nmain f\nfunc f 0 0\n\tret\nend\n", 4}, {"job 1 1\nmain f\nfunc f 0 0\n  \nend\n", 4}, {"job 1 1\nmain f\nfunc f 0 0\n \nend\n", 4}, {"job 1 1\nmain f\nfunc f 0 0\n   \nend\n", 4}, {"job 1 1\nmain f\nfunc f 0 0\n  ret \nend\n", 4}, {"job 1 1\nmain f\nfunc f 0 0\n  ret 0\nend\n", 4}, {"job 1 1\nmain f\nfunc f 0 0\n  push\nend\n", 4}, {"job 1 1\nmain f\nfunc f 0 0\n  push 1 2\nend\n", 4}, {"job 1 1\nmain f\nfunc f 0 0\n  push  1\nend\n", 4}, {"job 1 1\nmain f\nfunc f 0 0\n  push f\nend\n", 4}, {"job 1 1\nmain f\nfunc f 0 0\n  RET\nend\n", 4}, {"job 1 1\nmain f\nfunc f 0 0\n  nop\nend\n", 4}, {"job 1 1\nmain f\nfunc f 0 0\n  1 5\nend\n", 4}, {"job 1 1\nmain f\nfunc f 0 0\n  spawn\nend\n", 4}, {"job 1 1\nmain f\nfunc f 0 0\n  spawn \nend\n", 4}, {"job 1 1\nmain f\nfunc f 0 0\n  spawn 0\nend\n", 4}, {"job 1 1\nmain f\nfunc f 0 0\n  spawn f f\nend\n", 4}, {"job 1 1\nmain f\nfunc f 0 0\n  spawn f 0\nend\n", 4}, {"job 1 1\nmain f\nfunc f 0 0\nfunc f 0 0\nend\n", 4}, {"job 1 1\nmain f\nfunc f 0 0\njob 1 1\nend\n", 4},
		{"job 1 1\nmain f\nfunc f 0 0\nend\n\n", 5}, {"job 1 1\nmain f\nfunc f 0 0\nend\nend\n", 5}, {"job 1 1\nmain f\nfunc f 0 0\nend\n ", 5}, {"job 1 1\nmain f\nfunc f 0 0\nend\n\x00", 5}, {"job 1 1\nmain f\nfunc f 0 0\nend\n" + five, 5}, {"job 1 1\nmain f\nfunc f 0 0\nend\nx\ny\n", 5},
	} {
		checkRead(t, x.text)
		if j, n, e := asm.Read(x.text); e != api.ErrSyntax || n != x.line || !noJob(j) {
			t.Errorf("P401: %q: line %d, not %d, error %d", x.text, n, x.line, e)
		}
	}
}

func TestP401ReadUnknownNames(t *testing.T) {
	const funcs = "func f 0 0\n  spawn g\n  spawn f\nfunc g 0 0\n  ret\n"
	for _, x := range []struct {
		text string
		line int
	}{
		{"job 1 1\nmain h\n" + funcs + "end\n", 2},
		{"job 1 1\nmain f\n" + funcs + "  spawn h\nend\n", 8},
		{"job 1 1\nmain f\n" + funcs + "  spawn h\n  spawn i\nend\n", 8},
		{"job 1 1\nmain h\n" + funcs + "  spawn h\nend\n", 2},
		{"job 1 1\nmain ff\n" + funcs + "end\n", 2},
		{"job 1 1\nmain f\n" + funcs + "  spawn gg\nend\n", 8},
		{"job 1 1\nmain f\nend\n", 2},
		{"job 1 1\nmain end\n" + funcs + "end\n", 2},
		// Whatever else is wrong is told first, also where it comes later.
		{"job 1 1\nmain h\n" + funcs + "  bus\nend\n", 8},
		{"job 1 1\nmain h\n" + funcs, 8},
		{"job 1 1\nmain h\n" + funcs + "end", 8},
		{"job 1 1\nmain h\n" + funcs + "end\nx", 9},
		{"job 1 1\nmain h\n" + funcs + "end\n\n", 9},
		{"job 1 1\nmain h\n" + funcs + "func f 0 0\nend\n", 8},
		{"job 1 1\nmain f\n" + funcs + "  spawn h\n  bus\nend\n", 9},
		{"job 1 1\nmain f\n" + funcs + "  spawn h\nend\nend\n", 10},
		{"job 1 1\nmain h\n" + funcs + strings.Repeat("  ret\n", 256) + "end\n", 7 + 256},
		// What is no name at all is wrong at once.
		{"job 1 1\nmain H\n" + funcs + "  bus\nend\n", 2},
		{"job 1 1\nmain f\n" + funcs + "  spawn H\n  bus\nend\n", 8},
	} {
		checkRead(t, x.text)
		if j, n, e := asm.Read(x.text); e != api.ErrSyntax || n != x.line || !noJob(j) {
			t.Errorf("P401: %q: line %d, not %d, error %d", x.text, n, x.line, e)
		}
	}
}

func TestP401ReadTooMany(t *testing.T) {
	funcs := func(n int) string {
		s := "job 1 1\nmain f0\n"
		for _, name := range funcNames(n) {
			s += "func " + name + " 0 0\n"
		}
		return s + "end\n"
	}
	args := func(n int) string {
		return "job 1 1\nmain f" + strings.Repeat(" 7", n) + "\nfunc f 0 0\nend\n"
	}
	ins := func(n int) string {
		return "job 1 1\nmain f\nfunc f 0 0\n" + strings.Repeat("  ret\n", n) + "end\n"
	}
	second := func(n int) string {
		return "job 1 1\nmain f\nfunc f 0 0\n" + strings.Repeat("  ret\n", 256) + "func g 0 0\n" + strings.Repeat("  spawn g\n", n) + "end\n"
	}
	for _, x := range []struct {
		text string
		line int // 0: it is not wrong
	}{
		{funcs(31), 0}, {funcs(32), 0}, {funcs(33), 2 + 33}, {funcs(100), 2 + 33},
		{args(0), 0}, {args(7), 0}, {args(8), 0}, {args(9), 2}, {args(1000), 2},
		{ins(0), 0}, {ins(255), 0}, {ins(256), 0}, {ins(257), 3 + 257}, {ins(2000), 3 + 257},
		{second(255), 0}, {second(256), 0}, {second(257), 3 + 256 + 1 + 257},
	} {
		checkRead(t, x.text)
		want := api.OK
		if x.line > 0 {
			want = api.ErrSyntax
		}
		if _, n, e := asm.Read(x.text); e != want || n != x.line {
			t.Errorf("P401: %.60q..: line %d, not %d, error %d", x.text, n, x.line, e)
		}
	}
}

// longJob is a Plain job whose text has n bytes, n from 60 k on.
func longJob(t *testing.T, n int) api.Job {
	j := manyFuncs(30)
	for k := range j.Funcs {
		j.Funcs[k].Code = slices.Repeat([]api.Ins{{Op: api.Push}}, api.MaxCode)
	}
	left := n - len(asm.Print(j))
	for k := range j.Funcs {
		for i := range j.Funcs[k].Code {
			more := min(left, 18)
			if more > 0 {
				j.Funcs[k].Code[i].N, _ = strconv.Atoi(strings.Repeat("7", more+1))
				left -= more
			}
		}
	}
	if got := len(asm.Print(j)); got != n {
		t.Fatalf("P401: the text has %d bytes, not %d", got, n)
	}
	return j
}

func TestP401ReadLong(t *testing.T) {
	for _, n := range []int{api.MaxText - 1, api.MaxText} {
		j := longJob(t, n)
		if got, line, e := asm.Read(asm.Print(j)); e != api.OK || line != 0 || !sameJob(got, j) {
			t.Errorf("P402: a text of %d bytes: line %d, error %d", n, line, e)
		}
		if _, line, e := asm.Read(strings.Repeat("x", n)); e != api.ErrSyntax || line != 1 {
			t.Errorf("P401: %d wrong bytes: line %d, error %d", n, line, e)
		}
		if _, line, e := asm.Read(strings.Repeat(" ", n)); e != api.ErrSyntax || line != 1 {
			t.Errorf("P401: %d blanks: line %d, error %d", n, line, e)
		}
		if _, line, e := asm.Read(strings.Repeat("\n", n)); e != api.ErrSyntax || line != 1 {
			t.Errorf("P401: %d empty lines: line %d, error %d", n, line, e)
		}
	}
	for _, n := range []int{api.MaxText + 1, api.MaxText + 2, api.MaxText + 5000} {
		for _, s := range []string{asm.Print(longJob(t, n)), strings.Repeat("x", n), strings.Repeat("\n", n), five + strings.Repeat(" ", n-len(five))} {
			if j, line, e := asm.Read(s); e != api.ErrLong || line != 0 || !noJob(j) {
				t.Errorf("P401: %d bytes: line %d, error %d", len(s), line, e)
			}
		}
	}
	// A text that is as long as it may be, and goes on behind its end.
	s := asm.Print(longJob(t, api.MaxText-1)) + "\n"
	if _, line, e := asm.Read(s); e != api.ErrSyntax || line != strings.Count(s, "\n") {
		t.Errorf("P401: line %d, error %d", line, e)
	}
}

func TestP401ReadCut(t *testing.T) {
	for _, s := range []string{five, pair} {
		for k := range len(s) {
			checkRead(t, s[:k])
			if _, n, e := asm.Read(s[:k]); e != api.ErrSyntax || n != strings.Count(s[:k], "\n")+1 {
				t.Errorf("P401: %q: line %d, error %d", s[:k], n, e)
			}
		}
	}
}

func TestP401ReadEveryByte(t *testing.T) {
	for k := range len(pair) {
		checkRead(t, pair[:k]+pair[k+1:])
		for c := range 256 {
			checkRead(t, pair[:k]+string([]byte{byte(c)})+pair[k+1:])
			checkRead(t, pair[:k]+string([]byte{byte(c)})+pair[k:])
		}
	}
}

// spoil turns lines, words and bytes of a text.
func spoil(r *rand.Rand, s string) string {
	lines := strings.SplitAfter(s, "\n")
	k, m := r.Intn(len(lines)), r.Intn(len(lines))
	words := strings.Split(lines[k], " ")
	w := r.Intn(len(words))
	switch r.Intn(8) {
	case 0:
		lines[k] = ""
	case 1:
		lines[k], lines[m] = lines[m], lines[k]
	case 2:
		lines[k] += lines[m]
	case 3:
		words[w] = []string{"", "0", "-0", "f", "end", "spawn", "push", "9223372036854775808", someName(r)}[r.Intn(9)]
		lines[k] = strings.Join(words, " ")
	case 4:
		lines[k] = strings.Join(slices.Insert(words, w, []string{"", "1", "f"}[r.Intn(3)]), " ")
	case 5:
		lines[k] = strings.Join(slices.Delete(words, w, w+1), " ")
	case 6:
		lines[k] = strings.ReplaceAll(lines[k], "\n", "")
	case 7:
		b := []byte(s)
		b[r.Intn(len(b))] = byte(r.Intn(256))
		return string(b)
	}
	return strings.Join(lines, "")
}

func TestP401ReadSpoilt(t *testing.T) {
	r := rand.New(rand.NewSource(401))
	for range 6000 {
		s := slowPrint(someJob(r, 4, 5))
		for range 1 + r.Intn(3) {
			if s != "" {
				s = spoil(r, s)
			}
			checkRead(t, s)
		}
	}
}

// turn makes one thing of j anything.
func turn(r *rand.Rand, j *api.Job) {
	f := &j.Funcs[r.Intn(len(j.Funcs))]
	switch r.Intn(7) {
	case 0:
		j.Main = someInt(r)
	case 1:
		f.Name = []string{"", "A", "9", someName(r), j.Funcs[0].Name, someName(r) + someName(r)}[r.Intn(6)]
	case 2:
		j.Args = make([]int, r.Intn(12))
	case 3, 4, 5:
		if len(f.Code) > 0 {
			f.Code[r.Intn(len(f.Code))] = api.Ins{Op: r.Intn(22), N: r.Intn(4) - 1}
		}
	case 6:
		f.Code = slices.Repeat([]api.Ins{{Op: api.Dup}}, 250+r.Intn(12))
	}
}

func TestP401PlainSpoilt(t *testing.T) {
	r := rand.New(rand.NewSource(402))
	for range 6000 {
		j := someJob(r, 4, 5)
		checkPlain(t, j)
		turn(r, &j)
		checkPlain(t, j)
	}
}

func TestP402ReadOfPrint(t *testing.T) {
	r := rand.New(rand.NewSource(403))
	for k := range 1500 {
		funcs, ins := 5, 12
		if k%10 == 0 {
			funcs, ins = api.MaxFuncs, api.MaxCode
		}
		j := someJob(r, funcs, ins)
		s := asm.Print(j)
		got, n, e := asm.Read(s)
		if len(s) > api.MaxText {
			if e != api.ErrLong || n != 0 || !noJob(got) {
				t.Fatalf("P401: %d bytes: line %d, error %d", len(s), n, e)
			}
			continue
		}
		if e != api.OK || n != 0 || !sameJob(got, j) {
			t.Fatalf("P402: %+v comes back as %+v, line %d, error %d", j, got, n, e)
		}
	}
}

func TestP402FullJob(t *testing.T) {
	j := manyFuncs(api.MaxFuncs)
	for k := range j.Funcs {
		j.Funcs[k].Name = string(rune('a'+k%26)) + strconv.Itoa(k) + strings.Repeat("z", api.MaxName-3)
		j.Funcs[k].Name = j.Funcs[k].Name[:api.MaxName-1]
		j.Funcs[k].Code = slices.Repeat([]api.Ins{{Op: api.Swap}}, api.MaxCode)
		j.Funcs[k].Code[255] = api.Ins{Op: api.Spawn, N: api.MaxFuncs - 1 - k}
	}
	j.Main, j.Args = api.MaxFuncs-1, []int{1, 2, 3, 4, 5, 6, 7, 8}
	if got, n, e := asm.Read(asm.Print(j)); e != api.OK || n != 0 || !sameJob(got, j) {
		t.Errorf("P402: the greatest job: line %d, error %d", n, e)
	}
}

func TestP402NilAndEmpty(t *testing.T) {
	a := api.Job{Fuel: 1, Tasks: 1, Funcs: []api.Func{{Name: "f"}}}
	b := api.Job{Fuel: 1, Tasks: 1, Args: []int{}, Funcs: []api.Func{{Name: "f", Code: []api.Ins{}}}}
	if asm.Print(a) != asm.Print(b) || !asm.Plain(a) || !asm.Plain(b) || asm.Print(a) != "job 1 1\nmain f\nfunc f 0 0\nend\n" {
		t.Errorf("P402: %q, %q", asm.Print(a), asm.Print(b))
	}
}

func TestP402HandedInStays(t *testing.T) {
	args := []int{3, -4, 77, 78}
	funcs := append(pairJob().Funcs, api.Func{Name: "spare"})
	c := append(pairJob().Funcs[0].Code, api.Ins{Op: 99, N: 99})
	j := pairJob()
	j.Args, j.Funcs = args[:2], funcs[:2]
	j.Funcs[0].Code = c[:5]
	before := copyJob(j)
	for range 3 {
		if !asm.Plain(j) || asm.Print(j) != pair {
			t.Error("P402: another call, another answer")
		}
	}
	if !sameJob(j, before) {
		t.Errorf("P402: the job was changed: %+v", j)
	}
	if !slices.Equal(args, []int{3, -4, 77, 78}) || funcs[2].Name != "spare" || c[5] != (api.Ins{Op: 99, N: 99}) {
		t.Error("P402: the spare room was changed")
	}
}

func TestP402NothingKept(t *testing.T) {
	j := pairJob()
	text := asm.Print(j)
	j.Funcs[0].Name, j.Funcs[1].Code[0].N, j.Args[0] = "other", 55, 66
	if text != pair {
		t.Error("P402: the text hangs on the job's memory")
	}
	if asm.Print(pairJob()) != pair {
		t.Error("P402: a job was kept")
	}
	a, _, _ := asm.Read(pair)
	b, _, _ := asm.Read(pair)
	a.Args[0], a.Funcs[0].Name, a.Funcs[0].Code[0].N, a.Funcs[1].Code[1].Op = 9, "x", 9, 9
	if !sameJob(b, pairJob()) {
		t.Error("P402: two answers share memory")
	}
	if c, _, _ := asm.Read(pair); !sameJob(c, pairJob()) {
		t.Error("P402: an answer was kept")
	}
}

func TestP402ListsOfTheirOwn(t *testing.T) {
	j, _, _ := asm.Read(pair)
	for k := range j.Funcs {
		j.Funcs[k].Code = append(j.Funcs[k].Code, api.Ins{Op: api.Pop})
	}
	j.Args = append(j.Args, 5)
	want := pairJob()
	for k := range want.Funcs {
		want.Funcs[k].Code = append(want.Funcs[k].Code, api.Ins{Op: api.Pop})
	}
	want.Args = append(want.Args, 5)
	if !sameJob(j, want) {
		t.Errorf("P402: two lists of an answer share memory: %+v", j)
	}
}

// within tells whether part lies in the memory of whole.
func within(part, whole string) bool {
	p, w := uintptr(unsafe.Pointer(unsafe.StringData(part))), uintptr(unsafe.Pointer(unsafe.StringData(whole)))
	return p >= w && p < w+uintptr(len(whole))
}

func TestP402NamesAreNewMemory(t *testing.T) {
	s := strings.Clone(pair)
	j, _, _ := asm.Read(s)
	for _, f := range j.Funcs {
		if within(f.Name, s) {
			t.Errorf("P402: the name %q is a piece of the text", f.Name)
		}
	}
}

func TestP402ByArgumentsAlone(t *testing.T) {
	texts := []string{five, pair, "", five + "x", strings.Replace(pair, "spawn one", "spawn h", 1), "job 1 1\nmain f\n"}
	lines := []int{0, 0, 1, 7, 12, 3}
	var wg sync.WaitGroup
	for g := range 8 {
		wg.Go(func() {
			for k := range 300 {
				x := (g + k) % len(texts)
				j, n, e := asm.Read(texts[x])
				if n != lines[x] || (e == api.OK) != (n == 0) {
					t.Errorf("P402: %q: line %d, error %d", texts[x], n, e)
				}
				if e == api.OK && asm.Print(j) != texts[x] {
					t.Errorf("P402: %q prints %q", texts[x], asm.Print(j))
				}
			}
		})
	}
	wg.Wait()
}

func FuzzP401(f *testing.F) {
	f.Add(five)
	f.Add(pair)
	f.Add("job 1 1\nmain f\nend\n")
	f.Add("job 1 -0\nmain f 1 2 3\nfunc f 0 0\nend\nx")
	f.Fuzz(func(t *testing.T, s string) {
		checkRead(t, s)
	})
}

func FuzzP402(f *testing.F) {
	f.Add(int64(1), "f", 7, 3)
	f.Add(int64(2), "Z", 16, -1)
	f.Fuzz(func(t *testing.T, seed int64, name string, op, n int) {
		r := rand.New(rand.NewSource(seed))
		j := someJob(r, 4, 5)
		j.Funcs[r.Intn(len(j.Funcs))].Name = name
		j.Funcs[0].Code = append(j.Funcs[0].Code, api.Ins{Op: op, N: n})
		checkPlain(t, j)
		if asm.Plain(j) {
			if got, line, e := asm.Read(asm.Print(j)); e != api.OK || line != 0 || !sameJob(got, j) {
				t.Fatalf("P402: %+v comes back as %+v, line %d, error %d", j, got, line, e)
			}
		}
	})
}
