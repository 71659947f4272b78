package frame_test

import (
	"bytes"
	"fmt"
	"math"
	"math/rand"
	"slices"
	"sync"
	"testing"

	"gleaner/api"
	"gleaner/frame"
)

// refused asks that Read answers that error for b, and no frame.
func refused(t *testing.T, name string, b []byte, want api.Errno) {
	t.Helper()
	if f, e := frame.Read(b); e != want || !same(f, api.Frame{}) {
		t.Errorf("P1001: Read, %s: error %d, not %d; %+v", name, e, want, f)
	}
}

// sameAsSlow holds Read against slowRead, and what it takes against Pack.
func sameAsSlow(t *testing.T, b []byte) api.Errno {
	t.Helper()
	want, is := slowRead(b)
	f, e := frame.Read(b)
	if e != is || !same(f, want) {
		t.Fatalf("P1001: Read(%v): error %d, not %d; %+v, not %+v", b, e, is, f, want)
	}
	if e != api.OK {
		return e
	}
	if back, x := frame.Pack(f); x != api.OK || !bytes.Equal(back, b) {
		t.Fatalf("P1001: Pack of Read(%v): error %d, %v", b, x, back)
	}
	return e
}

// thereAndBack asks that f is packed as the chapter says, and is read again from that.
func thereAndBack(t *testing.T, f api.Frame) {
	t.Helper()
	b, e := frame.Pack(f)
	if e != api.OK || !bytes.Equal(b, slowPack(f)) {
		t.Fatalf("P1001: Pack: error %d, %v, not %v: %+v", e, b, slowPack(f), f)
	}
	if g, x := frame.Read(b); x != api.OK || !same(f, g) {
		t.Fatalf("P1001: Read: error %d, %+v, not %+v", x, g, f)
	}
}

func TestP1001PackBytes(t *testing.T) {
	for _, x := range []struct {
		f    api.Frame
		want []byte
	}{
		{api.Frame{}, []byte{'F', 0, 0, 0, 0, 0, 0, 0x3D, 0x9F, 0xB7, 0xBA}},
		{usual(), []byte{'F', 6, 30, 2, 216, 4, 140, 1, 8, 'l', 'o', 'a', 'd', 0xDC, 0x5C, 0x19, 0x9E}},
	} {
		if b, e := frame.Pack(x.f); e != api.OK || !bytes.Equal(b, x.want) {
			t.Errorf("P1001: Pack(%+v): error %d, % x, not % x", x.f, e, b, x.want)
		}
	}
}

func TestP1001PackOfNothing(t *testing.T) {
	for _, load := range [][]byte{nil, {}} {
		if b, e := frame.Pack(api.Frame{Load: load}); e != api.OK || len(b) != 11 {
			t.Errorf("P1001: error %d, %d bytes", e, len(b))
		}
	}
}

func TestP1001ThereAndBack(t *testing.T) {
	thereAndBack(t, api.Frame{})
	thereAndBack(t, usual())
	thereAndBack(t, most())
	for _, x := range fields {
		for bit := range 31 {
			for _, n := range []int{1 << bit, 1<<bit - 1, greatest - 1<<bit, greatest - 1<<bit + 1} {
				thereAndBack(t, usual(func(f *api.Frame) { *x.of(f) = min(n, x.most) }))
			}
		}
	}
	for n := range 4097 {
		thereAndBack(t, usual(func(f *api.Frame) { f.Load = most().Load[:n] }))
	}
	r := rand.New(rand.NewSource(1001))
	for range 5000 {
		thereAndBack(t, someFrame(r))
	}
}

// beyond answers numbers that a field up to most may not have.
func beyond(most int) []int {
	return []int{-1, -2, math.MinInt, math.MinInt32, -1 << 32, -most, most + 1, most + 2, 1 << 31, 1 << 32, 1<<32 + 1, 1 << 62, math.MaxInt}
}

func TestP1001PackRefusesNumbers(t *testing.T) {
	for _, x := range fields {
		for _, n := range beyond(x.most) {
			f := usual(func(f *api.Frame) { *x.of(f) = n })
			if b, e := frame.Pack(f); e != api.ErrArg || len(b) > 0 {
				t.Errorf("P1001: Pack, %s %d: error %d, %v", x.name, n, e, b)
			}
			f.Load = make([]byte, 4097) // the Load is looked at behind the numbers
			if b, e := frame.Pack(f); e != api.ErrArg || len(b) > 0 {
				t.Errorf("P1001: Pack, %s %d, a long Load: error %d, %v", x.name, n, e, b)
			}
		}
	}
}

func TestP1001PackRefusesLoads(t *testing.T) {
	for _, n := range []int{4097, 4098, 8192, 1 << 20} {
		for _, f := range []api.Frame{{}, usual(), most()} {
			f.Load = make([]byte, n)
			if b, e := frame.Pack(f); e != api.ErrLong || len(b) > 0 {
				t.Errorf("P1001: Pack, a Load of %d bytes: error %d, %d bytes", n, e, len(b))
			}
		}
	}
}

func TestP1001ReadShort(t *testing.T) {
	refused(t, "nil", nil, api.ErrByte)
	refused(t, "an empty list", []byte{}, api.ErrByte)
	b := slowPack(api.Frame{})
	for n := range 5 {
		refused(t, fmt.Sprint("the first bytes, ", n), b[:n], api.ErrByte)
		refused(t, fmt.Sprint("the last bytes, ", n), b[len(b)-n:], api.ErrByte)
	}
	refused(t, "the sum of nothing", sealed(nil), api.ErrByte)
	refused(t, "5 bytes, another sum", []byte("F\x00\x00\x00\x00"), api.ErrSum)
	refused(t, "5 bytes, their sum", sealed([]byte("F")), api.ErrByte)
	refused(t, "5 bytes, not its first", sealed([]byte("G")), api.ErrByte)
}

func TestP1001ReadOfOtherFirstBytes(t *testing.T) {
	body := slowBody(usual())
	for first := range 256 {
		b := append([]byte{byte(first)}, body[1:]...)
		if first != 'F' {
			refused(t, fmt.Sprint("sealed, first ", first), sealed(b), api.ErrByte)
			refused(t, fmt.Sprint("another sum, first ", first), append(b, 1, 2, 3, 4), api.ErrByte)
		}
	}
	refused(t, "without it", sealed(body[1:]), api.ErrByte)
	refused(t, "a byte ahead", sealed(append([]byte{0}, body...)), api.ErrByte)
	refused(t, "twice", sealed(append([]byte("F"), body...)), api.ErrByte)
}

func TestP1001ReadOfOtherSums(t *testing.T) {
	for _, f := range []api.Frame{{}, usual(), {Life: -1}, {Load: make([]byte, 4097)}} { // the sum is looked at ahead of what stands between
		b := slowPack(f)
		n := len(b) - 4
		for name, sum := range map[string][]byte{
			"the highest first": {b[n+3], b[n+2], b[n+1], b[n]},
			"all bits turned":   {^b[n], ^b[n+1], ^b[n+2], ^b[n+3]},
			"nought":            {0, 0, 0, 0},
			"none":              {},
			"half of it":        {b[n], b[n+1]},
			"twice":             {b[n], b[n+1], b[n+2], b[n+3], b[n], b[n+1], b[n+2], b[n+3]},
			"without the mark":  sealed(b[1:n])[n-1:],
		} {
			refused(t, "the sum, "+name, append(slices.Clone(b[:n]), sum...), api.ErrSum)
		}
		for at := 1; at < len(b); at++ {
			c := slices.Clone(b)
			c[at]++
			refused(t, fmt.Sprint("another byte ", at), c, api.ErrSum)
		}
	}
}

func TestP1001ReadOfNumbersBeyond(t *testing.T) {
	for _, x := range fields {
		for _, n := range beyond(x.most) {
			refused(t, fmt.Sprint(x.name, " ", n), slowPack(usual(func(f *api.Frame) { *x.of(f) = n })), api.ErrByte)
		}
		if f, e := frame.Read(slowPack(usual(func(f *api.Frame) { *x.of(f) = x.most }))); e != api.OK || *x.of(&f) != x.most {
			t.Errorf("P1001: Read, %s %d: error %d, %+v", x.name, x.most, e, f)
		}
	}
}

func TestP1001ReadOfLongLoads(t *testing.T) {
	for _, n := range []int{4097, 4098, 1 << 20} {
		refused(t, fmt.Sprint("a Load of ", n), slowPack(api.Frame{Load: make([]byte, n)}), api.ErrByte)
	}
	if f, e := frame.Read(slowPack(most())); e != api.OK || !same(f, most()) {
		t.Errorf("P1001: Read of the greatest frame: error %d, %+v", e, f)
	}
}

func TestP1001ReadWholly(t *testing.T) {
	body := slowBody(usual())
	for n := 1; n < len(body); n++ {
		refused(t, fmt.Sprint("cut: ", n), sealed(body[:n]), api.ErrByte)
		sameAsSlow(t, sealed(slices.Delete(slices.Clone(body), n, n+1))) // a byte less; some are frames still
	}
	for _, more := range [][]byte{{0}, {1}, {128}, {255}, body, make([]byte, 100)} {
		refused(t, fmt.Sprint("more behind: ", more), sealed(append(slices.Clone(body), more...)), api.ErrByte)
	}
	refused(t, "two sums", sealed(sealed(body)), api.ErrByte)
}

func TestP1001ReadOfLengths(t *testing.T) {
	ahead := ints([]byte("F"), 3, 15, 1, 300, 70)
	for _, load := range []string{"", "load"} {
		for _, n := range []int{-1, -2, -4, math.MinInt, len(load) + 1, len(load) + 5, 4096, 1 << 31, 1 << 32, 1 << 40, math.MaxInt} {
			refused(t, fmt.Sprint("a length ", n), sealed(append(ints(ahead, n), load...)), api.ErrByte)
		}
	}
	for n := range 4 {
		refused(t, fmt.Sprint("a length of 4: ", n), sealed(append(ints(ahead, n), "load"...)), api.ErrByte)
	}
}

// At each number of a frame: one that might have fewer bytes, one that is too long.
func TestP1001ReadOfOtherNumbers(t *testing.T) {
	numbers := []int{3, 15, 1, 300, 70, 4}
	join := func(at int, with []byte) []byte {
		b := []byte("F")
		for k, n := range numbers {
			if k == at {
				b = append(b, with...)
			} else {
				b = ints(b, n)
			}
		}
		return sealed(append(b, "load"...))
	}
	if f, e := frame.Read(join(-1, nil)); e != api.OK || !same(f, usual()) {
		t.Fatalf("P1001: error %d, %+v", e, f)
	}
	for at, n := range numbers {
		p := ints(nil, n)
		last := len(p) - 1
		padded := append(slices.Clone(p[:last]), p[last]|128, 0)
		refused(t, fmt.Sprint("might have fewer bytes: ", at), join(at, padded), api.ErrByte)
		refused(t, fmt.Sprint("more than 64 bits: ", at), join(at, append(bytes.Repeat([]byte{255}, 9), 2)), api.ErrByte)
		refused(t, fmt.Sprint("more than 10 bytes: ", at), join(at, append(bytes.Repeat([]byte{255}, 10), 1)), api.ErrByte)
		refused(t, fmt.Sprint("its lowest 64 bits would do: ", at), join(at, append(bytes.Repeat([]byte{128}, 9), 2)), api.ErrByte)
		refused(t, fmt.Sprint("not there: ", at), join(at, nil), api.ErrByte)
	}
}

func TestP1001ReadOfSpoiledBytes(t *testing.T) {
	r := rand.New(rand.NewSource(10012))
	seen := map[api.Errno]int{}
	for range 50000 {
		b := spoiled(r, slowBody(someFrame(r)))
		seen[sameAsSlow(t, b)]++
		seen[sameAsSlow(t, sealed(b))]++
		seen[sameAsSlow(t, spoiled(r, sealed(b)))]++
	}
	for _, e := range []api.Errno{api.OK, api.ErrByte, api.ErrSum} {
		if seen[e] < 1000 {
			t.Errorf("the bytes that were made are of too few kinds: %v", seen)
		}
	}
}

// spoiledFrame asks that a frame of which bits are turned is refused, by the error that its first byte calls for.
func spoiledFrame(t *testing.T, b []byte, at int, mask uint32) {
	t.Helper()
	c := turned(b, at, mask)
	want := api.ErrSum
	if c[0] != 'F' {
		want = api.ErrByte
	}
	if f, e := frame.Read(c); e != want || !same(f, api.Frame{}) {
		t.Fatalf("P1002: bits %x turned from bit %d on: error %d, not %d; %+v", mask, at, e, want, f)
	}
}

func TestP1002OneBit(t *testing.T) {
	for _, f := range []api.Frame{{}, usual(), most()} {
		b, _ := frame.Pack(f)
		for at := range 8 * len(b) {
			spoiledFrame(t, b, at, 1)
		}
	}
}

// All bits of each row of up to 32 side by side are turned, and some of them in every way that chance brings.
func TestP1002BitsSideBySide(t *testing.T) {
	r := rand.New(rand.NewSource(1002))
	frames := []api.Frame{{}, usual(), most()}
	for range 10 {
		frames = append(frames, someFrame(r))
	}
	for _, f := range frames {
		b, _ := frame.Pack(f)
		bits := 8 * len(b)
		for at := range bits {
			if at >= 200 && at < bits-200 { // of a long frame its ends, where the numbers and the sum are
				continue
			}
			for width := 1; width <= 32 && at+width <= bits; width++ {
				all := uint32(1<<width - 1)
				spoiledFrame(t, b, at, all)
				spoiledFrame(t, b, at, r.Uint32()&all|1|1<<(width-1))
			}
		}
	}
}

// shown is all of a list, its spare room too.
func shown(b []byte) []byte {
	return slices.Clone(b[:cap(b)])
}

func TestP1002HandedInStays(t *testing.T) {
	room := append([]byte("load"), bytes.Repeat([]byte{0xEE}, 5000)...)
	was := shown(room)
	for _, n := range []int{0, 4, 4096, 4097} {
		for _, from := range []int{3, 16} {
			f := usual(func(f *api.Frame) { f.From, f.Load = from, room[:n] })
			frame.Pack(f)
			if !bytes.Equal(shown(room), was) {
				t.Errorf("P1002: Pack changed a Load of %d bytes", n)
			}
		}
	}
	for _, f := range []api.Frame{{}, usual(), {From: 99}, most()} {
		b := append(slowPack(f), 201, 202, 203, 204, 205)
		was := shown(b)
		for _, n := range []int{len(b) - 5, len(b) - 6, len(b), 5, 4, 0} {
			frame.Read(b[:n])
			if !bytes.Equal(shown(b), was) {
				t.Errorf("P1002: Read changed what was handed in: %+v, %d bytes", f, n)
			}
		}
	}
}

// filled writes to all the memory that b has.
func filled(b []byte) {
	for k := range b[:cap(b)] {
		b[:cap(b)][k] = 9
	}
}

func TestP1002PackIsNewMemory(t *testing.T) {
	for _, f := range []api.Frame{{}, usual(), most()} {
		want := slowPack(f)
		a, _ := frame.Pack(f)
		b, _ := frame.Pack(f)
		filled(a)
		if !same(f, slowFrame(want)) {
			t.Error("P1002: what Pack answers shares memory with what was handed in")
		}
		filled(f.Load)
		if !bytes.Equal(b, want) {
			t.Error("P1002: what Pack answers turns with something else")
		}
		if c, _ := frame.Pack(slowFrame(want)); !bytes.Equal(c, want) {
			t.Error("P1002: Pack kept something")
		}
	}
}

// slowFrame is the frame whose bytes b are, in memory of its own.
func slowFrame(b []byte) api.Frame {
	f, _ := slowRead(slices.Clone(b))
	return f
}

func TestP1002ReadIsNewMemory(t *testing.T) {
	for _, want := range []api.Frame{{}, usual(), most()} {
		b := slowPack(want)
		f, _ := frame.Read(b)
		g, _ := frame.Read(b)
		filled(f.Load)
		if !bytes.Equal(b, slowPack(want)) {
			t.Error("P1002: what Read answers shares memory with what was handed in")
		}
		filled(b)
		if !same(g, want) {
			t.Error("P1002: what Read answers turns with something else")
		}
		if h, _ := frame.Read(slowPack(want)); !same(h, want) {
			t.Error("P1002: Read kept something")
		}
	}
}

func TestP1002ArgumentsAlone(t *testing.T) {
	r := rand.New(rand.NewSource(10022))
	var frames []api.Frame
	var all [][]byte
	for range 200 {
		f := someFrame(r)
		all = append(all, sealed(spoiled(r, slowBody(f))))
		*fields[r.Intn(5)].of(&f) -= r.Intn(2) // some can't be
		frames = append(frames, f)
	}
	tell := func(k int) string {
		b, e := frame.Pack(frames[k])
		f, x := frame.Read(all[k])
		return fmt.Sprint(b, e, f, x)
	}
	var want []string
	for k := range frames {
		want = append(want, tell(k))
	}
	var done sync.WaitGroup
	for range 4 {
		done.Go(func() {
			for k := range frames {
				if got := tell(k); got != want[k] {
					t.Errorf("P1002: %s, then %s", want[k], got)
				}
			}
		})
	}
	done.Wait()
}

func FuzzP1001(f *testing.F) {
	f.Add(slowBody(usual()))
	f.Add(slowBody(api.Frame{}))
	f.Add(slowBody(api.Frame{From: 16}))
	f.Add([]byte("F"))
	f.Add([]byte{})
	f.Fuzz(func(t *testing.T, b []byte) {
		sameAsSlow(t, b)
		sameAsSlow(t, sealed(b))
	})
}

func FuzzP1001Pack(f *testing.F) {
	f.Add(3, 15, 1, 300, 70, []byte("load"))
	f.Add(16, -1, 1<<31, 1<<31-1, 0, []byte(nil))
	f.Fuzz(func(t *testing.T, from, to, life, seq, ack int, load []byte) {
		x := api.Frame{From: from, To: to, Life: life, Seq: seq, Ack: ack, Load: load}
		if slowWrong(x) == api.OK {
			thereAndBack(t, x)
		} else if b, e := frame.Pack(x); e != slowWrong(x) || len(b) > 0 {
			t.Fatalf("P1001: Pack: error %d, not %d; %v", e, slowWrong(x), b)
		}
	})
}
