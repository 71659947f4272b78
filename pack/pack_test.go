package pack_test

import (
	"bytes"
	"math"
	"math/big"
	"math/rand"
	"slices"
	"testing"

	"gleaner/pack"
)

// slowInt writes one number as P101 words it, with numbers that can't overflow.
func slowInt(n int) []byte {
	left := new(big.Int).Mul(big.NewInt(int64(n)), big.NewInt(2))
	if n < 0 {
		left.Neg(left).Sub(left, big.NewInt(1))
	}
	var out []byte
	for {
		low := new(big.Int)
		left.DivMod(left, big.NewInt(128), low)
		if left.Sign() == 0 {
			return append(out, byte(low.Int64()))
		}
		out = append(out, byte(low.Int64()+128))
	}
}

// slowRead reads one number and its width, and holds it against what slowInt writes; width 0: there is none.
func slowRead(b []byte) (n, width int) {
	sum := new(big.Int)
	for i, x := range b {
		low := big.NewInt(int64(x % 128))
		sum.Add(sum, low.Lsh(low, uint(7*i)))
		if x >= 128 {
			continue
		}
		if sum.Bit(0) == 1 {
			sum.Add(sum, big.NewInt(1)).Neg(sum)
		}
		sum.Quo(sum, big.NewInt(2))
		if !sum.IsInt64() || !bytes.Equal(slowInt(int(sum.Int64())), b[:i+1]) {
			return 0, 0
		}
		return int(sum.Int64()), i + 1
	}
	return 0, 0
}

// edges answers the numbers around each power of two, where widths and signs turn.
func edges() []int {
	out := []int{0, math.MaxInt, math.MinInt}
	for bit := range 63 {
		for near := -2; near <= 2; near++ {
			n := 1<<bit + near
			out = append(out, n, -n)
		}
	}
	return out
}

// nothing asks that a cursor is Bad and stays so, whatever is read from it.
func nothing(t *testing.T, what any, c *pack.Cursor) {
	t.Helper()
	for range 3 {
		if !c.Bad() || c.Left() != 0 || c.End() {
			t.Fatalf("P102: %v: Bad %v, Left %d, End %v", what, c.Bad(), c.Left(), c.End())
		}
		if n := c.Int(); n != 0 {
			t.Fatalf("P102: %v: Int of a bad cursor: %d", what, n)
		}
		if x := c.Bytes(); len(x) != 0 {
			t.Fatalf("P102: %v: Bytes of a bad cursor: %v", what, x)
		}
	}
}

// roomy answers a list with its bytes and spare room that is filled with a mark.
func roomy(b ...byte) []byte {
	out := append(bytes.Clone(b), bytes.Repeat([]byte{0xEE}, 64)...)
	return out[:len(b)]
}

// whole asks that a list of roomy's is as it was, its spare room too.
func whole(t *testing.T, what string, got []byte, b ...byte) {
	t.Helper()
	want := roomy(b...)
	if len(got) != len(b) || !bytes.Equal(got[:len(b)+64], want[:len(b)+64]) {
		t.Errorf("P103: %s: what was handed in is now %v", what, got[:len(b)+64])
	}
}

func TestP101IntExamples(t *testing.T) {
	for _, x := range []struct {
		n    int
		want []byte
	}{
		{0, []byte{0}},
		{1, []byte{2}},
		{-1, []byte{1}},
		{63, []byte{126}},
		{-64, []byte{127}},
		{64, []byte{128, 1}},
		{-65, []byte{129, 1}},
		{8191, []byte{254, 127}},
		{-8192, []byte{255, 127}},
		{8192, []byte{128, 128, 1}},
		{math.MaxInt, []byte{254, 255, 255, 255, 255, 255, 255, 255, 255, 1}},
		{math.MinInt, []byte{255, 255, 255, 255, 255, 255, 255, 255, 255, 1}},
	} {
		if out := pack.Int(nil, x.n); !bytes.Equal(out, x.want) {
			t.Errorf("P101: Int(nil, %d): %v", x.n, out)
		}
	}
	if out := pack.Int(nil, 1, -1, 64); !bytes.Equal(out, []byte{2, 1, 128, 1}) {
		t.Errorf("P101: the chapter's example: %v", out)
	}
}

func TestP101IntAtEdges(t *testing.T) {
	var all []byte
	for _, n := range edges() {
		want := slowInt(n)
		if out := pack.Int(nil, n); !bytes.Equal(out, want) {
			t.Errorf("P101: Int(nil, %d): %v, not %v", n, out, want)
		}
		all = append(all, want...)
	}
	if out := pack.Int(nil, edges()...); !bytes.Equal(out, all) {
		t.Error("P101: many numbers are not one behind the other")
	}
}

func TestP101IntBehind(t *testing.T) {
	if out := pack.Int([]byte{7, 200}, -1, 0); !bytes.Equal(out, []byte{7, 200, 1, 0}) {
		t.Errorf("P101: %v", out)
	}
	if out := pack.Int([]byte{7, 200}); !bytes.Equal(out, []byte{7, 200}) {
		t.Errorf("P101: no numbers: %v", out)
	}
	if out := pack.Int(nil); len(out) != 0 {
		t.Errorf("P101: nothing at all: %v", out)
	}
}

func TestP101Bytes(t *testing.T) {
	for _, size := range []int{0, 1, 2, 63, 64, 65, 8191, 8192, 70000} {
		text := bytes.Repeat([]byte{'x'}, size)
		want := append(append([]byte{5}, slowInt(size)...), text...)
		if out := pack.Bytes([]byte{5}, text); !bytes.Equal(out, want) {
			t.Errorf("P101: a text of %d bytes", size)
		}
	}
	if out := pack.Bytes([]byte{9}, []byte("ab"), nil, []byte{}, []byte{0, 255}); !bytes.Equal(out, []byte{9, 4, 'a', 'b', 0, 0, 4, 0, 255}) {
		t.Errorf("P101: some texts: %v", out)
	}
	if out := pack.Bytes([]byte{9}); !bytes.Equal(out, []byte{9}) {
		t.Errorf("P101: no texts: %v", out)
	}
	if out := pack.Bytes(nil); len(out) != 0 {
		t.Errorf("P101: nothing at all: %v", out)
	}
}

func TestP102ReadsNumbers(t *testing.T) {
	in := pack.Int(nil, edges()...)
	c := pack.New(in)
	left := len(in)
	for _, n := range edges() {
		if c.Left() != left || c.Bad() || c.End() {
			t.Fatalf("P102: ahead of %d: Left %d, Bad %v, End %v", n, c.Left(), c.Bad(), c.End())
		}
		if got := c.Int(); got != n {
			t.Fatalf("P102: %d, not %d", got, n)
		}
		left -= len(slowInt(n))
	}
	if c.Left() != 0 || c.Bad() || !c.End() {
		t.Error("P102: all is read")
	}
	c.Int()
	nothing(t, "behind the end", c)
}

func TestP102ReadsTexts(t *testing.T) {
	long := bytes.Repeat([]byte{3, 200}, 5000)
	c := pack.New(pack.Int(pack.Bytes(nil, []byte("xyz"), nil, long), -7))
	if x := c.Bytes(); string(x) != "xyz" {
		t.Errorf("P102: %v", x)
	}
	if x := c.Bytes(); len(x) != 0 || c.Bad() {
		t.Errorf("P102: an empty text: %v, Bad %v", x, c.Bad())
	}
	if x := c.Bytes(); !bytes.Equal(x, long) {
		t.Errorf("P102: a long text: %d bytes", len(x))
	}
	if n := c.Int(); n != -7 || !c.End() {
		t.Errorf("P102: behind the texts: %d, End %v", n, c.End())
	}
	c.Bytes()
	nothing(t, "a text behind the end", c)
	c = pack.New([]byte{4, 'a', 'b'})
	if x := c.Bytes(); string(x) != "ab" || !c.End() {
		t.Errorf("P102: a text up to the end: %v, End %v", x, c.End())
	}
}

func TestP102Empty(t *testing.T) {
	for _, b := range [][]byte{nil, {}} {
		c := pack.New(b)
		if c.Left() != 0 || c.Bad() || !c.End() {
			t.Errorf("P102: a new cursor on nothing: Left %d, Bad %v, End %v", c.Left(), c.Bad(), c.End())
		}
		c.Int()
		nothing(t, "a number of nothing", c)
		c = pack.New(b)
		c.Bytes()
		nothing(t, "a text of nothing", c)
	}
}

// TestP102Short asks of all lists of two bytes that a cursor reads just what Int writes there.
func TestP102Short(t *testing.T) {
	written := map[string]int{}
	for n := -8192; n < 8192; n++ {
		written[string(slowInt(n))] = n
	}
	for i := range 1 << 16 {
		b := []byte{byte(i >> 8), byte(i)}
		c := pack.New(b)
		got := c.Int()
		n, one := written[string(b[:1])]
		two, both := written[string(b)]
		switch {
		case one && (got != n || c.Bad() || c.Left() != 1):
			t.Fatalf("P102: %v: %d, Bad %v, Left %d", b, got, c.Bad(), c.Left())
		case both && (got != two || !c.End()):
			t.Fatalf("P102: %v: %d, Bad %v, Left %d", b, got, c.Bad(), c.Left())
		case !one && !both:
			if got != 0 {
				t.Fatalf("P102: %v: %d", b, got)
			}
			nothing(t, b, c)
		}
	}
}

// TestP102TenthByte asks of each byte behind nine full ones that 64 bits are read, and no more.
func TestP102TenthByte(t *testing.T) {
	for last := range 256 {
		for _, behind := range [][]byte{nil, {0}, {1}, {128, 1}} {
			b := append(append(bytes.Repeat([]byte{255}, 9), byte(last)), behind...)
			c := pack.New(b)
			n := c.Int()
			if last == 1 {
				if n != math.MinInt || c.Bad() || c.Left() != len(behind) {
					t.Fatalf("P102: %v: %d, Bad %v, Left %d", b, n, c.Bad(), c.Left())
				}
				continue
			}
			if n != 0 {
				t.Fatalf("P102: %v: %d", b, n)
			}
			nothing(t, b, c)
		}
	}
}

func TestP102WrongNumbers(t *testing.T) {
	for width := 1; width <= 12; width++ {
		cut := bytes.Repeat([]byte{128}, width)
		padded := append(bytes.Repeat([]byte{129}, width), 0)
		padded = append(padded, 2, 2)
		for _, b := range [][]byte{cut, padded} {
			c := pack.New(b)
			if n := c.Int(); n != 0 {
				t.Errorf("P102: %v: %d", b, n)
			}
			nothing(t, b, c)
		}
	}
	for _, n := range edges() {
		b := slowInt(n)
		c := pack.New(b[:len(b)-1])
		c.Int()
		nothing(t, b, c)
	}
}

func TestP102WrongTexts(t *testing.T) {
	for _, b := range [][]byte{
		{1, 'a'},
		{3, 'a', 'b'},
		{2},
		{4, 'a'},
		{128, 1},
		{128, 0, 'a'},
		{130, 0, 'a', 'b'},
		{128},
		pack.Int(nil, math.MaxInt, 1),
		pack.Int(nil, math.MinInt, 1),
		pack.Int(nil, math.MaxInt-8, 1),
		append(bytes.Repeat([]byte{255}, 9), 2, 1),
	} {
		c := pack.New(b)
		if x := c.Bytes(); len(x) != 0 {
			t.Errorf("P102: a text of %v: %v", b, x)
		}
		nothing(t, b, c)
	}
	c := pack.New([]byte{2, 4, 'a', 'b', 6, 'c'})
	if c.Int() != 1 || string(c.Bytes()) != "ab" || c.Left() != 2 {
		t.Error("P102: what is good ahead of a wrong text")
	}
	c.Bytes()
	nothing(t, "a wrong text behind good ones", c)
}

// List is how jobs and notes read things of which there may be any number.
func TestP102List(t *testing.T) {
	c := pack.New([]byte{6, 2, 1, 128, 1, 0, 4, 4, 'a', 'b', 0, 10})
	if l := pack.List(c, c.Int); !slices.Equal(l, []int{1, -1, 64}) {
		t.Errorf("P102: numbers: %v", l)
	}
	if l := pack.List(c, c.Int); len(l) != 0 || c.Bad() {
		t.Errorf("P102: no numbers: %v, Bad %v", l, c.Bad())
	}
	if l := pack.List(c, c.Bytes); len(l) != 2 || string(l[0]) != "ab" || len(l[1]) != 0 {
		t.Errorf("P102: texts: %v", l)
	}
	if c.Int() != 5 || !c.End() {
		t.Error("P102: behind the lists")
	}
}

func TestP102WrongLists(t *testing.T) {
	for _, b := range [][]byte{
		nil,
		{1, 2},
		{3, 2, 2},
		{2},
		{4, 2},
		{4, 2, 128},
		{6, 2, 128, 0, 2},
		{130, 0, 2},
		pack.Int(nil, math.MaxInt, 1),
		pack.Int(nil, math.MinInt, 1),
		pack.Int(nil, 1<<32+1, 1),
	} {
		c := pack.New(b)
		if l := pack.List(c, c.Int); len(l) != 0 {
			t.Errorf("P102: a list of %v: %v", b, l)
		}
		nothing(t, b, c)
	}
	reads := 0
	c := pack.New(append(append(pack.Int(nil, 1000), 2, 128, 0), make([]byte, 1000)...))
	pack.List(c, func() int { reads++; return c.Int() })
	if reads != 2 {
		t.Errorf("P102: %d reads, the second of which is wrong", reads)
	}
}

func TestP102AnyWalk(t *testing.T) {
	r := rand.New(rand.NewSource(1))
	for range 2000 {
		b := make([]byte, r.Intn(40))
		for i := range b {
			b[i] = []byte{0, 1, 2, 4, 127, 128, 255, byte(r.Intn(256))}[r.Intn(8)]
		}
		walk(t, b, r.Int63())
	}
}

func FuzzP102(f *testing.F) {
	f.Add([]byte{2, 1, 128, 1, 4, 'a', 'b'}, int64(5))
	f.Add([]byte{}, int64(0))
	f.Add([]byte{255, 255, 255, 255, 255, 255, 255, 255, 255, 1, 0}, int64(-1))
	f.Fuzz(walk)
}

// walk reads b by the bits of turns, numbers and texts, and asks that each is read as slowRead has it, up to the first that is none.
func walk(t *testing.T, b []byte, turns int64) {
	c := pack.New(b)
	for rest := b; ; turns = turns>>1 | turns<<62 {
		if c.Bad() || c.Left() != len(rest) || c.End() != (len(rest) == 0) {
			t.Fatalf("P102: %v ahead of %v: Bad %v, Left %d, End %v", b, rest, c.Bad(), c.Left(), c.End())
		}
		n, width := slowRead(rest)
		rest = rest[width:]
		good := width > 0
		if turns&1 == 0 {
			if got := c.Int(); got != n {
				t.Fatalf("P102: %v: %d, not %d", b, got, n)
			}
		} else {
			good = good && n >= 0 && n <= len(rest)
			if !good {
				n = 0
			}
			if got := c.Bytes(); !bytes.Equal(got, rest[:n]) {
				t.Fatalf("P102: %v: %v, not %v", b, got, rest[:n])
			}
			rest = rest[n:]
		}
		if !good {
			nothing(t, b, c)
			return
		}
	}
}

func TestP103Int(t *testing.T) {
	b, n := roomy(7, 8), []int{1, -1, 64}
	first, second, none := pack.Int(b, n...), pack.Int(b, n...), pack.Int(b)
	whole(t, "Int", b, 7, 8)
	if n[0] != 1 || n[1] != -1 || n[2] != 64 {
		t.Errorf("P103: the numbers are now %v", n)
	}
	clear(first)
	clear(none)
	whole(t, "Int, its answer changed", b, 7, 8)
	b[0], n[0] = 99, 99
	if !bytes.Equal(second, []byte{7, 8, 2, 1, 128, 1}) {
		t.Errorf("P103: an answer became %v", second)
	}
}

func TestP103Bytes(t *testing.T) {
	b, x := roomy(7, 8), roomy(5, 6)
	texts := [][]byte{x, nil, x}
	first, second, none := pack.Bytes(b, texts...), pack.Bytes(b, texts...), pack.Bytes(b)
	clear(first)
	clear(none)
	whole(t, "Bytes", b, 7, 8)
	whole(t, "a text of Bytes", x, 5, 6)
	if len(texts) != 3 || &texts[0][0] != &x[0] || texts[1] != nil || &texts[2][0] != &x[0] {
		t.Error("P103: the list of texts is another")
	}
	b[0], x[0] = 99, 99
	if !bytes.Equal(second, []byte{7, 8, 4, 5, 6, 0, 4, 5, 6}) {
		t.Errorf("P103: an answer became %v", second)
	}
}

// TestP103Behind asks that two answers from one beginning are apart, also if that beginning was answered itself.
func TestP103Behind(t *testing.T) {
	base := pack.Int(nil, 1, 2, 3, 4, 5)
	one, two := pack.Int(base, 6), pack.Int(base, 7)
	three, four := pack.Bytes(base, []byte("a")), pack.Bytes(base, []byte("b"))
	if one[5] != 12 || two[5] != 14 || three[6] != 'a' || four[6] != 'b' {
		t.Errorf("P103: %v %v %v %v", one, two, three, four)
	}
}

func TestP103Cursor(t *testing.T) {
	in := roomy(4, 'a', 'b', 4, 'c', 'd', 2)
	c, other := pack.New(in), pack.New(in)
	x := c.Bytes()
	x[0] = 'X'
	x = append(x, 9, 9, 9, 9)
	y := c.Bytes()
	whole(t, "New", in, 4, 'a', 'b', 4, 'c', 'd', 2)
	if string(y) != "cd" || c.Int() != 1 || !c.End() {
		t.Errorf("P103: a text that was changed by its owner changed what was read: %v", y)
	}
	clear(in)
	clear(x)
	if string(other.Bytes()) != "ab" || string(other.Bytes()) != "cd" || other.Int() != 1 || !other.End() {
		t.Error("P103: a cursor kept what was handed in, or shared what another one read")
	}
	if string(y) != "cd" {
		t.Errorf("P103: a text became %v", y)
	}
}

// TestP103CopiedCursor asks that a text is its reader's own even if the cursor was copied ahead of it.
func TestP103CopiedCursor(t *testing.T) {
	c := pack.New([]byte{4, 'a', 'b', 2})
	twin := *c
	clear(c.Bytes())
	if x := twin.Bytes(); string(x) != "ab" || twin.Int() != 1 || !twin.End() || c.Left() != 1 {
		t.Errorf("P103: a cursor's copy reads %v", x)
	}
}
