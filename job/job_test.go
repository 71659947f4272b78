package job_test

import (
	"bytes"
	"fmt"
	"hash/crc32"
	"math"
	"math/rand"
	"slices"
	"strings"
	"sync"
	"testing"

	"gleaner/api"
	"gleaner/asm"
	"gleaner/job"
)

// refused asks that Read answers that error for b, and no job.
func refused(t *testing.T, name string, b []byte, want api.Errno) {
	t.Helper()
	if j, e := job.Read(b); e != want || !same(j, api.Job{}) {
		t.Errorf("P801: Read, %s: error %d, not %d; %+v", name, e, want, j)
	}
}

// sameAsSlow holds Read against slowRead, and what it takes against Pack.
func sameAsSlow(t *testing.T, b []byte) api.Errno {
	t.Helper()
	want, is := slowRead(b)
	j, e := job.Read(b)
	if e != is || !same(j, want) {
		t.Fatalf("P801: Read(%v): error %d, not %d; %+v, not %+v", b, e, is, j, want)
	}
	if e != api.OK {
		return e
	}
	if back, x := job.Pack(j); x != api.OK || !bytes.Equal(back, b) {
		t.Fatalf("P801: Pack of Read(%v): error %d, %v", b, x, back)
	}
	return e
}

func TestP801PackBytes(t *testing.T) {
	b, e := job.Pack(api.Job{Fuel: 64, Tasks: 3, Main: 0, Args: []int{-1}, Funcs: []api.Func{{Name: "go1", Args: 1, Locals: 2, Code: []api.Ins{{Op: api.Push, N: -65}, {Op: api.Ret}}}}})
	want := []byte{'G', 'L', 'N', 'J', 128, 1, 6, 0, 2, 1, 2, 6, 'g', 'o', '1', 2, 4, 4, 2, 129, 1, 36, 0}
	sum := crc32.ChecksumIEEE(want)
	want = append(want, byte(sum), byte(sum>>8), byte(sum>>16), byte(sum>>24))
	if e != api.OK || !bytes.Equal(b, want) {
		t.Errorf("P801: error %d, %v, not %v", e, b, want)
	}
}

func TestP801PackOfJobs(t *testing.T) {
	for name, j := range map[string]api.Job{"pair": pair(), "most": most(), "least": least()} {
		if b, e := job.Pack(j); e != api.OK || !bytes.Equal(b, slowPack(j)) {
			t.Errorf("P801: Pack of %s: error %d, %v", name, e, b)
		}
	}
	r := rand.New(rand.NewSource(801))
	for range 2000 {
		j := someJob(r)
		if b, e := job.Pack(j); e != api.OK || !bytes.Equal(b, slowPack(j)) {
			t.Fatalf("P801: error %d, %v, not %v: %+v", e, b, slowPack(j), j)
		}
	}
}

func TestP801PackRefuses(t *testing.T) {
	seen := map[api.Errno]bool{}
	for name, j := range wrong() {
		want := checked(j)
		seen[want] = true
		if b, e := job.Pack(j); want == api.OK || e != want || len(b) > 0 {
			t.Errorf("P801: Pack, %s: error %d, not %d; %v", name, e, want, b)
		}
	}
	for _, e := range []api.Errno{api.ErrFunc, api.ErrLong, api.ErrLimit, api.ErrArgs, api.ErrName, api.ErrLocal, api.ErrOp, api.ErrJump, api.ErrStack} {
		if !seen[e] {
			t.Errorf("no job with the error %d", e)
		}
	}
}

// What can be read, and is no job that may be, has Check's error.
func TestP801ReadOfWrongJobs(t *testing.T) {
	for name, j := range wrong() {
		refused(t, name, slowPack(j), checked(j))
	}
}

func TestP801ReadLong(t *testing.T) {
	filled := func(n int) []byte { // a whole job of n bytes, of which only a name is wrong
		few := len(slowPack(pair())) + 2 // the length of the name itself takes two bytes more
		return slowPack(pair(func(j *api.Job) { j.Funcs[0].Name += strings.Repeat("x", n-few) }))
	}
	whole, more := filled(api.MaxText), filled(api.MaxText+1)
	if len(whole) != api.MaxText || len(more) != api.MaxText+1 {
		t.Fatalf("the jobs have %d and %d bytes", len(whole), len(more))
	}
	refused(t, "as long as may be", whole, api.ErrName)
	refused(t, "a byte too long", more, api.ErrLong)
	refused(t, "too long, all 0", make([]byte, api.MaxText+1), api.ErrLong)
	refused(t, "far too long", make([]byte, 5*api.MaxText), api.ErrLong)
	refused(t, "too long, a wrong sum", append(slices.Clone(whole), 0), api.ErrLong)
	refused(t, "as long as may be, all 0", make([]byte, api.MaxText), api.ErrByte)
	refused(t, "as long as may be, a wrong sum", append(slices.Clone(whole[:api.MaxText-1]), ^whole[api.MaxText-1]), api.ErrSum)
	refused(t, "as long as may be, of numbers", sealed(append([]byte("GLNJ"), make([]byte, api.MaxText-8)...)), api.ErrByte)
}

func TestP801ReadShort(t *testing.T) {
	refused(t, "nil", nil, api.ErrByte)
	refused(t, "an empty list", []byte{}, api.ErrByte)
	b := slowPack(least())
	for n := range 8 {
		refused(t, fmt.Sprint("the first bytes, ", n), b[:n], api.ErrByte)
		refused(t, fmt.Sprint("the first bytes with a sum, ", n), sealed(b[:max(0, n-4)])[:n], api.ErrByte)
	}
	refused(t, "8 bytes, another sum", []byte("GLNJ\x00\x00\x00\x00"), api.ErrSum)
	refused(t, "8 bytes, their sum", sealed([]byte("GLNJ")), api.ErrByte)
	refused(t, "8 bytes, not its first", sealed([]byte("GLNK")), api.ErrByte)
}

func TestP801ReadOfOtherFirstBytes(t *testing.T) {
	body := slowBody(pair())
	for at := range 4 {
		for bit := range 8 {
			b := slices.Clone(body)
			b[at] ^= 1 << bit
			refused(t, fmt.Sprint("the first bytes, sealed: ", at, bit), sealed(b), api.ErrByte)
			refused(t, fmt.Sprint("the first bytes, not sealed: ", at, bit), append(b, 1, 2, 3, 4), api.ErrByte)
		}
	}
	refused(t, "in lower case", sealed(append([]byte("glnj"), body[4:]...)), api.ErrByte)
	refused(t, "without them", sealed(body[4:]), api.ErrByte)
	refused(t, "a byte ahead", sealed(append([]byte{0}, body...)), api.ErrByte)
}

func TestP801ReadOfOtherSums(t *testing.T) {
	b := slowPack(pair())
	for at := 4; at < len(b); at++ {
		for bit := range 8 {
			c := slices.Clone(b)
			c[at] ^= 1 << bit
			refused(t, fmt.Sprint("a bit turned: ", at, bit), c, api.ErrSum)
		}
	}
	n := len(b) - 4
	for name, sum := range map[string][]byte{
		"the highest first": {b[n+3], b[n+2], b[n+1], b[n]},
		"all bits turned":   {^b[n], ^b[n+1], ^b[n+2], ^b[n+3]},
		"nought":            {0, 0, 0, 0},
		"none":              {},
		"half of it":        {b[n], b[n+1]},
		"twice":             {b[n], b[n+1], b[n+2], b[n+3], b[n], b[n+1], b[n+2], b[n+3]},
		"without the mark":  sealed(b[4:n])[n-4:],
	} {
		refused(t, "the sum, "+name, append(slices.Clone(b[:n]), sum...), api.ErrSum)
	}
	for name, j := range wrong() { // the sum is looked at ahead of what stands between
		c := slowPack(j)
		c[len(c)-1] ^= 128
		refused(t, "another sum, "+name, c, api.ErrSum)
		refused(t, "another sum, no job's bytes, "+name, append(slowBody(j), 255, 0, 0, 0, 0, 0), api.ErrSum)
	}
}

func TestP801ReadWholly(t *testing.T) {
	body := slowBody(pair())
	for n := 4; n < len(body); n++ {
		refused(t, fmt.Sprint("cut: ", n), sealed(body[:n]), api.ErrByte)
	}
	for _, more := range [][]byte{{0}, {1}, {128}, {255}, {2, 'f', 0, 0, 0}, body[4:], make([]byte, 100)} {
		refused(t, fmt.Sprint("more behind: ", more), sealed(append(slices.Clone(body), more...)), api.ErrByte)
	}
	refused(t, "two sums", sealed(sealed(body)), api.ErrByte)
	for name, j := range wrong() { // what stands there is read wholly ahead of Check
		refused(t, "more behind, "+name, sealed(append(slowBody(j), 0)), api.ErrByte)
		if b := slowBody(j); len(j.Funcs) > 0 {
			refused(t, "cut, "+name, sealed(b[:len(b)-1]), api.ErrByte)
		}
	}
}

func TestP801ReadOfCounts(t *testing.T) {
	args := ints([]byte("GLNJ"), 100, 9, 0)
	funcs := ints(args, 0)
	name := ints(funcs, 1)
	code := ints(append(ints(name, 1), 'f'), 0, 0)
	// What follows the right number of each: all that is left of a job.
	ofCode := ints(nil, 1, 7, 18, 0)
	ofName := slices.Concat([]byte("f"), ints(nil, 0, 0, 2), ofCode)
	ofFuncs := slices.Concat(ints(nil, 1), ofName)
	ofArgs := slices.Concat(ints(nil, 1), ofFuncs)
	for _, x := range []struct {
		what         string
		ahead, after []byte
		right        int
	}{
		{"args", args, ofArgs, 0},
		{"functions", funcs, ofFuncs, 1},
		{"bytes of a name", name, ofName, 1},
		{"instructions", code, ofCode, 2},
	} {
		if j, e := job.Read(sealed(append(ints(x.ahead, x.right), x.after...))); e != api.OK || len(j.Funcs) != 1 || len(j.Funcs[0].Code) != 2 {
			t.Errorf("P801: Read, %d %s: error %d, %+v", x.right, x.what, e, j)
		}
		left := len(x.after)
		for _, n := range []int{-1, -2, -left, math.MinInt, x.right + 1, left, left + 1, 1 << 20, 1 << 31, 1 << 32, 1 << 40, 1 << 62, math.MaxInt} {
			refused(t, fmt.Sprint(n, " ", x.what), sealed(append(ints(x.ahead, n), x.after...)), api.ErrByte)
			refused(t, fmt.Sprint(n, " ", x.what, ", nothing behind"), sealed(ints(x.ahead, n)), api.ErrByte)
		}
	}
	refused(t, "no functions", sealed(ints(funcs, 0)), api.ErrFunc)
	refused(t, "no instructions", sealed(ints(code, 0)), api.ErrLong)
	refused(t, "an empty name", sealed(append(ints(name, 0), ofName[1:]...)), api.ErrName)
	// Nothing but the number itself is wrong here, were it taken for nought.
	refused(t, "-1 functions", sealed(ints(funcs, -1)), api.ErrByte)
	refused(t, "-1 instructions", sealed(ints(code, -1)), api.ErrByte)
}

// Numbers that promise much must not be believed ahead of what follows.
func TestP801ReadOfNestedCounts(t *testing.T) {
	b := ints([]byte("GLNJ"), 100, 9, 0, 0, 40000)
	for len(b) < api.MaxText-100 {
		b = ints(append(ints(b, 1), 'f'), 0, 0, 1, 1, 7)
	}
	refused(t, "more functions than there are", sealed(b), api.ErrByte)
	refused(t, "as many args as bytes", sealed(append(ints([]byte("GLNJ"), 100, 9, 0, 100000), make([]byte, 100000)...)), api.ErrByte)
	room := ints([]byte("GLNJ"), 100, 9, 0, 0, 1, 0, 0, 0)
	refused(t, "as many instructions as bytes", sealed(append(ints(room, 100000), make([]byte, 100000)...)), api.ErrByte)
	refused(t, "half as many", sealed(append(ints(room, 50000), make([]byte, 100000)...)), api.ErrName)
}

// At each number of a job: one that might have fewer bytes, one that is too long.
func TestP801ReadOfOtherNumbers(t *testing.T) {
	pieces := [][]byte{ints(nil, 100), ints(nil, 9), ints(nil, 0), ints(nil, 1), ints(nil, -3), ints(nil, 1), ints(nil, 1), []byte("f"), ints(nil, 1), ints(nil, 2), ints(nil, 2), ints(nil, 1), ints(nil, 7), ints(nil, 18), ints(nil, 0)}
	join := func(at int, with []byte) []byte {
		b := []byte("GLNJ")
		for k, p := range pieces {
			if k == at {
				p = with
			}
			b = append(b, p...)
		}
		return sealed(b)
	}
	if j, e := job.Read(join(-1, nil)); e != api.OK || !same(j, api.Job{Fuel: 100, Tasks: 9, Args: []int{-3}, Funcs: []api.Func{{Name: "f", Args: 1, Locals: 2, Code: []api.Ins{push, ret}}}}) {
		t.Fatalf("P801: error %d, %+v", e, j)
	}
	for at, p := range pieces {
		if string(p) == "f" {
			continue
		}
		last := len(p) - 1
		padded := append(slices.Clone(p[:last]), p[last]|128, 0)
		refused(t, fmt.Sprint("might have fewer bytes: ", at), join(at, padded), api.ErrByte)
		refused(t, fmt.Sprint("more than 64 bits: ", at), join(at, append(bytes.Repeat([]byte{255}, 9), 2)), api.ErrByte)
		refused(t, fmt.Sprint("more than 10 bytes: ", at), join(at, append(bytes.Repeat([]byte{255}, 10), 1)), api.ErrByte)
		refused(t, fmt.Sprint("not there: ", at), join(at, nil), api.ErrByte)
		refused(t, fmt.Sprint("without its end: ", at), join(at, []byte{255}), api.ErrByte)
	}
}

func TestP801ReadOfSpoiledBytes(t *testing.T) {
	r := rand.New(rand.NewSource(8012))
	seen := map[api.Errno]int{}
	for range 30000 {
		b := spoiled(r, slowBody(someJob(r)))
		seen[sameAsSlow(t, b)]++
		seen[sameAsSlow(t, sealed(b))]++
	}
	for _, e := range []api.Errno{api.OK, api.ErrByte, api.ErrSum, api.ErrLimit, api.ErrFunc, api.ErrArgs, api.ErrName, api.ErrLocal, api.ErrOp, api.ErrJump, api.ErrStack} {
		if seen[e] < 20 {
			t.Errorf("the bytes that were made are of too few kinds: %v", seen)
		}
	}
}

func TestP802ReadOfPack(t *testing.T) {
	back := func(j api.Job) {
		t.Helper()
		b, e := job.Pack(j)
		got, x := job.Read(b)
		if e != api.OK || x != api.OK || !same(got, j) {
			t.Fatalf("P802: errors %d, %d; %+v, not %+v", e, x, got, j)
		}
		if asm.Print(got) != asm.Print(j) {
			t.Fatalf("P802: its text is %q, not %q", asm.Print(got), asm.Print(j))
		}
	}
	back(pair())
	back(least())
	back(most())
	r := rand.New(rand.NewSource(802))
	for range 3000 {
		back(someJob(r))
	}
	edges := []int{0, -1, 1, math.MinInt, math.MaxInt}
	for bit := range 63 {
		edges = append(edges, 1<<bit, 1<<bit-1, -1<<bit, -1<<bit-1)
	}
	for _, n := range edges {
		back(pair(func(j *api.Job) { j.Args[0], j.Funcs[1].Code[2].N = n, n }))
	}
	for n := range api.MaxFuncs {
		j := most()
		j.Funcs, j.Main = j.Funcs[:n+1], n
		back(j)
	}
}

// Each job that may be has few enough bytes to be read.
func TestP802MostFits(t *testing.T) {
	if b, e := job.Pack(most()); e != api.OK || len(b) > api.MaxText || len(b) < 80000 {
		t.Errorf("P802: error %d, %d bytes", e, len(b))
	}
}

// roomy is j with spare room in all its lists, the spare room filled.
func roomy(j api.Job) api.Job {
	j.Args = append(slices.Clone(j.Args), 71, 72)[:len(j.Args)]
	j.Funcs = append(slices.Clone(j.Funcs), api.Func{Name: "spare", Code: []api.Ins{push}})[:len(j.Funcs)]
	for k, f := range j.Funcs {
		j.Funcs[k].Code = append(slices.Clone(f.Code), ret, push)[:len(f.Code)]
	}
	return j
}

// shown is all of a roomy job, its spare room too.
func shown(j api.Job) string {
	s := fmt.Sprint(j.Main, j.Fuel, j.Tasks, j.Args[:len(j.Args)+2], j.Funcs[:len(j.Funcs)+1])
	for _, f := range j.Funcs {
		s += fmt.Sprint(f.Code[:len(f.Code)+2])
	}
	return s
}

func TestP802HandedInStays(t *testing.T) {
	jobs := wrong()
	jobs["pair"], jobs["least"], jobs["most"] = pair(), least(), most()
	for name, j := range jobs {
		j = roomy(j)
		before := shown(j)
		job.Pack(j)
		if shown(j) != before {
			t.Errorf("P802: Pack changed what was handed in: %s", name)
		}
		b := append(slowPack(j), 201, 202, 203, 204, 205)
		was := slices.Clone(b)
		for _, n := range []int{len(b) - 5, len(b) - 6, 7, 3, 0} {
			job.Read(b[:n])
			if !bytes.Equal(b, was) {
				t.Errorf("P802: Read changed what was handed in: %s, %d bytes", name, n)
			}
		}
	}
}

func TestP802PackIsNewMemory(t *testing.T) {
	j := pair()
	want := slowPack(j)
	a, _ := job.Pack(j)
	b, _ := job.Pack(j)
	for k := range a[:cap(a)] {
		a[:cap(a)][k] = 9
	}
	j.Args[0], j.Funcs[0].Name, j.Funcs[1].Code[2].N = 1, "x", 2
	if !bytes.Equal(b, want) {
		t.Error("P802: what Pack answers turns with something else")
	}
	if c, _ := job.Pack(pair()); !bytes.Equal(c, want) {
		t.Error("P802: Pack kept something")
	}
}

// filled writes to all the memory that j's lists have.
func filled(j api.Job) {
	args, funcs := j.Args[:cap(j.Args)], j.Funcs[:cap(j.Funcs)]
	for k := range args {
		args[k] = 99
	}
	for _, f := range j.Funcs {
		c := f.Code[:cap(f.Code)]
		for k := range c {
			c[k] = api.Ins{Op: 99, N: 99}
		}
	}
	for k := range funcs {
		funcs[k] = api.Func{Name: "filled"}
	}
}

func TestP802ReadIsNewMemory(t *testing.T) {
	for _, j := range []api.Job{pair(), least(), most()} {
		bytes := slowPack(j)
		a, _ := job.Read(bytes)
		b, _ := job.Read(bytes)
		filled(a)
		for k := range bytes {
			bytes[k] = 'x'
		}
		if !same(b, j) {
			t.Error("P802: what Read answers turns with something else")
		}
		if c, _ := job.Read(slowPack(j)); !same(c, j) {
			t.Error("P802: Read kept something")
		}
	}
}

func TestP802ListsOfTheirOwn(t *testing.T) {
	want := most()
	for at := range want.Funcs {
		j, _ := job.Read(slowPack(want))
		c := j.Funcs[at].Code[:cap(j.Funcs[at].Code)]
		for k := range c {
			c[k] = api.Ins{}
		}
		j.Funcs[at].Code = want.Funcs[at].Code
		if !same(j, want) {
			t.Errorf("P802: the code of function %d shares memory with another list", at)
		}
	}
}

func TestP802ArgumentsAlone(t *testing.T) {
	r := rand.New(rand.NewSource(8022))
	var jobs []api.Job
	var all [][]byte
	for range 100 {
		jobs = append(jobs, someJob(r))
		all = append(all, sealed(spoiled(r, slowBody(jobs[len(jobs)-1]))))
	}
	tell := func(k int) string {
		b, e := job.Pack(jobs[k])
		j, x := job.Read(all[k])
		return fmt.Sprint(b, e, j, x)
	}
	var want []string
	for k := range jobs {
		want = append(want, tell(k))
	}
	var done sync.WaitGroup
	for range 4 {
		done.Go(func() {
			for k := range jobs {
				if got := tell(k); got != want[k] {
					t.Errorf("P802: %s, then %s", want[k], got)
				}
			}
		})
	}
	done.Wait()
}

func FuzzP801(f *testing.F) {
	f.Add(slowBody(pair()))
	f.Add(slowBody(least()))
	f.Add(slowBody(api.Job{}))
	f.Add([]byte("GLNJ"))
	f.Add([]byte{})
	f.Fuzz(func(t *testing.T, b []byte) {
		sameAsSlow(t, b)
		sameAsSlow(t, sealed(b))
	})
}
