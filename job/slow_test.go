package job_test

import (
	"bytes"
	"encoding/binary"
	"fmt"
	"hash/crc32"
	"math"
	"math/rand"
	"slices"

	"gleaner/api"
	"gleaner/check"
)

// Instructions that most tests need.
var (
	push = api.Ins{Op: api.Push, N: 7}
	ret  = api.Ins{Op: api.Ret}
)

// pair is a job of two functions, in which all that a function can have is there; turned by turn.
func pair(turn ...func(j *api.Job)) api.Job {
	j := api.Job{Fuel: 100, Tasks: 9, Main: 1, Args: []int{-3}, Funcs: []api.Func{
		{Name: "one", Args: 2, Locals: 3, Code: []api.Ins{{Op: api.Load}, {Op: api.Load, N: 1}, {Op: api.Add}, {Op: api.Store, N: 2}, {Op: api.Load, N: 2}, ret}},
		{Name: "two2", Args: 1, Locals: 1, Code: []api.Ins{{Op: api.Load}, {Op: api.Zero, N: 6}, push, {Op: api.Push, N: math.MinInt}, {Op: api.Spawn}, {Op: api.Jump, N: 8}, push, {Op: api.Spawn, N: 1}, {Op: api.Await}, ret, {Op: api.Fail}}},
	}}
	for _, t := range turn {
		t(&j)
	}
	return j
}

// most is a job with as much of everything as there may be, each number as long as it can be: no job has more bytes.
func most() api.Job {
	j := api.Job{Fuel: api.MaxFuel, Tasks: api.MaxTasks, Main: api.MaxFuncs - 1, Args: slices.Repeat([]int{math.MinInt}, api.MaxArgs)}
	for k := range api.MaxFuncs {
		f := api.Func{Name: fmt.Sprintf("f%019d", k), Args: api.MaxArgs, Locals: api.MaxLocals}
		f.Code = []api.Ins{{Op: api.Push, N: math.MaxInt}, ret}
		for len(f.Code) < api.MaxCode { // never reached: no depth to keep to
			f.Code = append(f.Code, api.Ins{Op: api.Push, N: math.MinInt})
		}
		j.Funcs = append(j.Funcs, f)
	}
	return j
}

// least is a job with as little of everything as there may be.
func least() api.Job {
	return api.Job{Fuel: 1, Tasks: 1, Funcs: []api.Func{{Name: "f", Code: []api.Ins{{Op: api.Push}, ret}}}}
}

// wrong are jobs that can't be, by what is wrong, one at least of each error that Check has.
func wrong() map[string]api.Job {
	long := func(n int) []api.Func { return slices.Repeat(least().Funcs, n) }
	return map[string]api.Job{
		"nothing":             {},
		"no function":         pair(func(j *api.Job) { j.Funcs = nil }),
		"too many functions":  pair(func(j *api.Job) { j.Funcs = long(api.MaxFuncs + 1) }),
		"far too many":        pair(func(j *api.Job) { j.Funcs = long(5000) }),
		"fuel 0":              pair(func(j *api.Job) { j.Fuel = 0 }),
		"fuel below 0":        pair(func(j *api.Job) { j.Fuel = math.MinInt }),
		"too much fuel":       pair(func(j *api.Job) { j.Fuel = api.MaxFuel + 1 }),
		"no tasks":            pair(func(j *api.Job) { j.Tasks = 0 }),
		"too many tasks":      pair(func(j *api.Job) { j.Tasks = math.MaxInt }),
		"main below 0":        pair(func(j *api.Job) { j.Main = -1 }),
		"main of none":        pair(func(j *api.Job) { j.Main = 2 }),
		"an arg too few":      pair(func(j *api.Job) { j.Args = nil }),
		"an arg too many":     pair(func(j *api.Job) { j.Args = []int{1, 2} }),
		"many args":           pair(func(j *api.Job) { j.Args = make([]int, 3000) }),
		"no name":             pair(func(j *api.Job) { j.Funcs[0].Name = "" }),
		"a long name":         pair(func(j *api.Job) { j.Funcs[0].Name = "f12345678901234567890" }),
		"a name of any bytes": pair(func(j *api.Job) { j.Funcs[1].Name = "\xff\x00" }),
		"a name twice":        pair(func(j *api.Job) { j.Funcs[1].Name = "one" }),
		"args below 0":        pair(func(j *api.Job) { j.Funcs[0].Args = -1 }),
		"too many args":       pair(func(j *api.Job) { j.Funcs[0].Args = 9 }),
		"too few locals":      pair(func(j *api.Job) { j.Funcs[0].Locals = 1 }),
		"too many locals":     pair(func(j *api.Job) { j.Funcs[0].Locals = 17 }),
		"no code":             pair(func(j *api.Job) { j.Funcs[1].Code = nil }),
		"too long a code":     pair(func(j *api.Job) { j.Funcs[1].Code = slices.Repeat([]api.Ins{push}, 257) }),
		"no instruction":      pair(func(j *api.Job) { j.Funcs[0].Code[2].Op = 20 }),
		"op 0":                pair(func(j *api.Job) { j.Funcs[0].Code[2].Op = 0 }),
		"op below 0":          pair(func(j *api.Job) { j.Funcs[0].Code[2].Op = -1 }),
		"an n too many":       pair(func(j *api.Job) { j.Funcs[0].Code[2].N = 1 }),
		"no such local":       pair(func(j *api.Job) { j.Funcs[0].Code[0].N = 3 }),
		"a jump out":          pair(func(j *api.Job) { j.Funcs[1].Code[5].N = 11 }),
		"a spawn of none":     pair(func(j *api.Job) { j.Funcs[1].Code[4].N = 2 }),
		"no ret":              pair(func(j *api.Job) { j.Funcs[0].Code = []api.Ins{push} }),
		"two depths":          pair(func(j *api.Job) { j.Funcs[1].Code[1].N = 7 }),
		"an empty stack":      pair(func(j *api.Job) { j.Funcs[0].Code = []api.Ins{ret} }),
	}
}

// checked is Check's error alone.
func checked(j api.Job) api.Errno {
	_, _, e := check.Check(j)
	return e
}

// ints is b with numbers behind it, as chapter 1 writes them, by the library's means.
func ints(b []byte, n ...int) []byte {
	b = slices.Clone(b)
	for _, x := range n {
		b = binary.AppendVarint(b, int64(x))
	}
	return b
}

// sealed is b with its sum behind.
func sealed(b []byte) []byte {
	return binary.LittleEndian.AppendUint32(slices.Clone(b), crc32.ChecksumIEEE(b))
}

// slowBody writes any job as the chapter says, also one that can't be; without its sum.
func slowBody(j api.Job) []byte {
	b := ints([]byte("GLNJ"), j.Fuel, j.Tasks, j.Main, len(j.Args))
	b = ints(ints(b, j.Args...), len(j.Funcs))
	for _, f := range j.Funcs {
		b = append(append(b, ints(nil, len(f.Name))...), f.Name...)
		b = append(b, ints(nil, f.Args, f.Locals, len(f.Code))...)
		for _, i := range f.Code {
			b = append(b, ints(nil, i.Op, i.N)...)
		}
	}
	return b
}

func slowPack(j api.Job) []byte {
	return sealed(slowBody(j))
}

// slowRead reads b as the chapter says.
func slowRead(b []byte) (api.Job, api.Errno) {
	if len(b) > 131072 {
		return api.Job{}, api.ErrLong
	}
	if len(b) < 8 || string(b[:4]) != "GLNJ" {
		return api.Job{}, api.ErrByte
	}
	body := b[:len(b)-4]
	if !bytes.Equal(b, sealed(body)) {
		return api.Job{}, api.ErrSum
	}
	s := slow{rest: body[4:], ok: true}
	j := s.job()
	if !s.ok || len(s.rest) > 0 {
		return api.Job{}, api.ErrByte
	}
	if e := checked(j); e != api.OK {
		return api.Job{}, e
	}
	return j, api.OK
}

// slow reads numbers as chapter 1 writes them; not ok: one is none.
type slow struct {
	rest []byte
	ok   bool
}

func (s *slow) int() int {
	n, width := binary.Varint(s.rest)
	if !s.ok || width <= 0 || !bytes.Equal(ints(nil, int(n)), s.rest[:width]) {
		s.ok, s.rest = false, nil
		return 0
	}
	s.rest = s.rest[width:]
	return int(n)
}

func (s *slow) count() int {
	n := s.int()
	if n < 0 || n > len(s.rest) {
		s.ok, s.rest = false, nil
		return 0
	}
	return n
}

func (s *slow) text() string {
	n := s.count()
	text := string(s.rest[:n])
	s.rest = s.rest[n:]
	return text
}

func (s *slow) job() api.Job {
	j := api.Job{}
	j.Fuel = s.int()
	j.Tasks = s.int()
	j.Main = s.int()
	for n := s.count(); n > 0 && s.ok; n-- {
		j.Args = append(j.Args, s.int())
	}
	for n := s.count(); n > 0 && s.ok; n-- {
		f := api.Func{}
		f.Name = s.text()
		f.Args = s.int()
		f.Locals = s.int()
		for n := s.count(); n > 0 && s.ok; n-- {
			i := api.Ins{}
			i.Op = s.int()
			i.N = s.int()
			f.Code = append(f.Code, i)
		}
		j.Funcs = append(j.Funcs, f)
	}
	return j
}

// same tells whether two jobs are one, nil and empty lists meaning the same.
func same(a, b api.Job) bool {
	return a.Fuel == b.Fuel && a.Tasks == b.Tasks && a.Main == b.Main && slices.Equal(a.Args, b.Args) &&
		slices.EqualFunc(a.Funcs, b.Funcs, func(f, g api.Func) bool {
			return f.Name == g.Name && f.Args == g.Args && f.Locals == g.Locals && slices.Equal(f.Code, g.Code)
		})
}

// anInt makes a number of any length.
func anInt(r *rand.Rand) int {
	return int(r.Uint64()>>r.Intn(64)) * (1 - 2*r.Intn(2))
}

// someJob makes a job that may be.
func someJob(r *rand.Rand) api.Job {
	j := api.Job{Fuel: 1 + r.Intn(api.MaxFuel), Tasks: 1 + r.Intn(api.MaxTasks)}
	for k := range 1 + r.Intn(5) {
		f := api.Func{Name: fmt.Sprintf("f%dx%d", k, r.Intn(1000)), Args: r.Intn(api.MaxArgs + 1)}
		f.Locals = f.Args + r.Intn(api.MaxLocals-f.Args+1)
		j.Funcs = append(j.Funcs, f)
	}
	for k := range j.Funcs {
		j.Funcs[k].Code = someCode(r, j.Funcs[k], j.Funcs)
	}
	j.Main = r.Intn(len(j.Funcs))
	for range j.Funcs[j.Main].Args {
		j.Args = append(j.Args, anInt(r))
	}
	return j
}

// someCode keeps to its depth: it goes back nowhere, and pops no more than there is.
func someCode(r *rand.Rand, f api.Func, funcs []api.Func) []api.Ins {
	var out []api.Ins
	depth := 0
	for range r.Intn(40) {
		kid := r.Intn(len(funcs))
		at := len(out)
		switch x := r.Intn(8); {
		case x == 0 && f.Locals > 0 && depth < api.MaxStack:
			out, depth = append(out, api.Ins{Op: api.Load, N: r.Intn(f.Locals)}), depth+1
		case x == 1 && f.Locals > 0 && depth > 0:
			out, depth = append(out, api.Ins{Op: api.Store, N: r.Intn(f.Locals)}), depth-1
		case x == 2 && depth > 1:
			out, depth = append(out, api.Ins{Op: api.Add + r.Intn(7)}), depth-1
		case x == 3 && depth > 0:
			out, depth = append(out, api.Ins{Op: api.Zero, N: at + 1}), depth-1
		case x == 4:
			out = append(out, api.Ins{Op: api.Jump, N: at + 1})
		case x == 5 && depth >= funcs[kid].Args && depth < api.MaxStack:
			out, depth = append(out, api.Ins{Op: api.Spawn, N: kid}), depth-funcs[kid].Args+1
		case x == 6 && depth > 0:
			out = append(out, api.Ins{Op: api.Await})
		case depth < api.MaxStack:
			out, depth = append(out, api.Ins{Op: api.Push, N: anInt(r)}), depth+1
		}
	}
	if depth == 0 {
		out = append(out, push)
	}
	return append(out, api.Ins{Op: api.Ret + r.Intn(2)})
}

// spoiled turns, takes away or puts in some of b's bytes.
func spoiled(r *rand.Rand, b []byte) []byte {
	b = slices.Clone(b)
	for range 1 + r.Intn(2) {
		if len(b) == 0 {
			return b
		}
		at := r.Intn(len(b))
		switch r.Intn(5) {
		case 0:
			b[at] ^= 1 << r.Intn(8)
		case 1:
			b = slices.Delete(b, at, at+1)
		case 2:
			b = slices.Insert(b, at, byte(r.Intn(256)))
		case 3:
			b[at] = []byte{0, 1, 2, 3, 0x7f, 0x80, 0xff}[r.Intn(7)]
		case 4:
			b = b[:at]
		}
	}
	return b
}
