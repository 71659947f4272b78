package crc_test

import (
	"bytes"
	"encoding/binary"
	"hash/crc32"
	"math"
	"math/rand"
	"sync"
	"testing"

	"gleaner/crc"
)

// slowSum works the sum out bit by bit, as P201 words it.
func slowSum(b ...[]byte) int {
	left := uint32(math.MaxUint32)
	for _, x := range bytes.Join(b, nil) {
		for bit := range 8 {
			low := left ^ uint32(x>>bit)
			left >>= 1
			if low&1 == 1 {
				left ^= 0xEDB88320
			}
		}
	}
	return int(left ^ math.MaxUint32)
}

// pieces cuts b into lists at random places; some of the lists are empty or nil.
func pieces(r *rand.Rand, b []byte) [][]byte {
	var out [][]byte
	for len(b) > 0 {
		n := r.Intn(len(b) + 1)
		out = append(out, b[:n:n])
		b = b[n:]
		if r.Intn(3) == 0 {
			out = append(out, nil, []byte{})
		}
	}
	return out
}

func someBytes(r *rand.Rand, n int) []byte {
	b := make([]byte, n)
	r.Read(b)
	return b
}

func TestP201SumExamples(t *testing.T) {
	for _, x := range []struct {
		text string
		want int
	}{
		{"123456789", 3421780262},
		{"", 0},
		{"a", 0xE8B7BE43},
		{"\x00", 0xD202EF8D},
		{"\xFF", 0xFF000000},
		{"\x00\x00\x00\x00", 0x2144DF1C},
		{"\xFF\xFF\xFF\xFF", 0xFFFFFFFF},
		{"The quick brown fox jumps over the lazy dog", 0x414FA339},
	} {
		if got := crc.Sum([]byte(x.text)); got != x.want {
			t.Errorf("P201: Sum of %q: %d, not %d", x.text, got, x.want)
		}
	}
}

func TestP201SumOfNothing(t *testing.T) {
	if crc.Sum() != 0 || crc.Sum(nil) != 0 || crc.Sum(nil, []byte{}, nil) != 0 {
		t.Errorf("P201: sums of no bytes: %d %d %d", crc.Sum(), crc.Sum(nil), crc.Sum(nil, []byte{}, nil))
	}
	var none [][]byte
	if crc.Sum(none...) != 0 || crc.More(77, none...) != 77 {
		t.Errorf("P201: of a nil list of lists: %d %d", crc.Sum(none...), crc.More(77, none...))
	}
}

func TestP201SumOfEachByteAndPair(t *testing.T) {
	for i := range 1 << 8 {
		if b := []byte{byte(i)}; crc.Sum(b) != slowSum(b) {
			t.Errorf("P201: Sum of %v: %d, not %d", b, crc.Sum(b), slowSum(b))
		}
	}
	for i := range 1 << 16 {
		if b := []byte{byte(i), byte(i >> 8)}; crc.Sum(b) != slowSum(b) {
			t.Fatalf("P201: Sum of %v: %d, not %d", b, crc.Sum(b), slowSum(b))
		}
	}
}

func TestP201SumOfEachLength(t *testing.T) {
	b := someBytes(rand.New(rand.NewSource(201)), 2000)
	for n := range len(b) {
		want := int(crc32.ChecksumIEEE(b[:n]))
		if got := crc.Sum(b[:n]); got != want || slowSum(b[:n]) != want {
			t.Fatalf("P201: Sum of %d bytes: %d, not %d", n, got, want)
		}
	}
	long := bytes.Repeat(b, 1000)
	if crc.Sum(long) != int(crc32.ChecksumIEEE(long)) {
		t.Errorf("P201: Sum of %d bytes: %d", len(long), crc.Sum(long))
	}
}

func TestP201SumIsNeverBelowZero(t *testing.T) {
	r := rand.New(rand.NewSource(202))
	high := 0
	for range 1000 {
		b := someBytes(r, 1+r.Intn(20))
		got := crc.Sum(b)
		if got < 0 || got > math.MaxUint32 {
			t.Fatalf("P201: Sum of %v: %d has not 32 bits", b, got)
		}
		if got >= 1<<31 {
			high++
		}
	}
	if high == 0 {
		t.Error("P201: none of the sums has bit 31")
	}
}

func TestP201ListsOneBehindTheOther(t *testing.T) {
	r := rand.New(rand.NewSource(203))
	for range 1000 {
		b := someBytes(r, r.Intn(60))
		cut := pieces(r, b)
		if got, want := crc.Sum(cut...), crc.Sum(b); got != want {
			t.Fatalf("P201: Sum of %v: %d, not %d", cut, got, want)
		}
	}
	if crc.Sum([]byte("ab"), []byte("c")) == crc.Sum([]byte("c"), []byte("ab")) {
		t.Error("P201: the order of the lists is not seen")
	}
}

func TestP201More(t *testing.T) {
	r := rand.New(rand.NewSource(204))
	for range 1000 {
		a, b := someBytes(r, r.Intn(40)), someBytes(r, r.Intn(40))
		want := crc.Sum(a, b)
		if got := crc.More(crc.Sum(a), b); got != want {
			t.Fatalf("P201: More(Sum(%v), %v): %d, not %d", a, b, got, want)
		}
		if got := crc.More(crc.Sum(pieces(r, a)...), pieces(r, b)...); got != want {
			t.Fatalf("P201: More of pieces of %v, %v: %d, not %d", a, b, got, want)
		}
	}
}

func TestP201MoreFromAnySum(t *testing.T) {
	r := rand.New(rand.NewSource(205))
	for _, sum := range append([]int{0, 1, 1 << 31, math.MaxUint32}, r.Perm(1000)...) {
		b := someBytes(r, r.Intn(20))
		if got, want := crc.More(sum, b), int(crc32.Update(uint32(sum), crc32.IEEETable, b)); got != want {
			t.Fatalf("P201: More(%d, %v): %d, not %d", sum, b, got, want)
		}
	}
}

func TestP201MoreOfNothing(t *testing.T) {
	for _, sum := range []int{0, 1, 3421780262, 1 << 31, math.MaxUint32} {
		if crc.More(sum) != sum || crc.More(sum, nil, []byte{}) != sum {
			t.Errorf("P201: More(%d) of nothing: %d %d", sum, crc.More(sum), crc.More(sum, nil, []byte{}))
		}
	}
}

func TestP201MoreLooksAtTheLowest32Bits(t *testing.T) {
	text := []byte("56789")
	low := crc.Sum([]byte("1234"))
	for _, sum := range []int{
		low + 1<<32, low - 1<<32, low + 1<<62, low - 1<<62, low + math.MinInt, low | ^math.MaxUint32,
	} {
		if got := crc.More(sum, text); got != 3421780262 {
			t.Errorf("P201: More(%d): %d", sum, got)
		}
		if got := crc.More(sum); got != low {
			t.Errorf("P201: More(%d) of nothing: %d, not %d", sum, got, low)
		}
	}
	for sum, want := range map[int]int{-1: math.MaxUint32, math.MaxInt: math.MaxUint32, math.MinInt: 0, 1 << 32: 0, 1<<32 + 5: 5} {
		if got := crc.More(sum); got != want {
			t.Errorf("P201: More(%d) of nothing: %d, not %d", sum, got, want)
		}
	}
}

// Tail is how jobs and frames carry their sums.
func TestP201Tail(t *testing.T) {
	r := rand.New(rand.NewSource(207))
	for range 1000 {
		b := someBytes(r, r.Intn(60))
		want := binary.LittleEndian.AppendUint32(nil, crc32.ChecksumIEEE(b))
		if got := crc.Tail(pieces(r, b)...); !bytes.Equal(got, want) || len(got) != crc.TailLong {
			t.Fatalf("P201: Tail of %v: %v, not %v", b, got, want)
		}
	}
	if got := crc.Tail(); !bytes.Equal(got, make([]byte, 4)) {
		t.Errorf("P201: Tail of nothing: %v", got)
	}
}

func TestP202ArgumentsStayAsTheyAre(t *testing.T) {
	room := []byte("123456789, and spare room")
	lists := make([][]byte, 3, 5)
	lists[0], lists[2] = room[:4], room[4:9]
	lists[:5][3], lists[:5][4] = room[9:10], room[10:]
	for _, got := range []int{crc.Sum(lists...), crc.More(0, lists...)} {
		if got != 3421780262 {
			t.Errorf("P202: a sum with spare room behind: %d", got)
		}
	}
	if string(room) != "123456789, and spare room" {
		t.Errorf("P202: the bytes are now %q", room)
	}
	if all := lists[:5]; all[1] != nil || string(bytes.Join(all, nil)) != "123456789, and spare room" || len(all[0]) != 4 || len(all[2]) != 5 {
		t.Errorf("P202: the lists are now %q", all)
	}
}

func TestP202NothingIsKept(t *testing.T) {
	b := []byte("1234")
	sum := crc.Sum(b)
	b[0] = 'x' // a sum that was told stands for what the bytes were
	if got := crc.More(sum, []byte("56789")); got != 3421780262 {
		t.Errorf("P202: More behind a list that was changed: %d", got)
	}
	if got := crc.Sum(b); got != slowSum([]byte("x234")) {
		t.Errorf("P202: Sum of a list that was changed: %d", got)
	}
	b[0] = '1'
	if got := crc.Sum(b); got != sum {
		t.Errorf("P202: Sum of a list as it was: %d, not %d", got, sum)
	}
}

func TestP202AnswersHangOnArgumentsAlone(t *testing.T) {
	r := rand.New(rand.NewSource(206))
	var calls sync.WaitGroup
	for range 8 {
		b := someBytes(r, 3000)
		want := int(crc32.ChecksumIEEE(b))
		calls.Go(func() {
			for n := range 50 {
				if crc.Sum(b) != want || crc.More(crc.Sum(b[:n]), b[n:]) != want {
					t.Errorf("P202: a sum hangs on other calls")
					return
				}
			}
		})
	}
	calls.Wait()
}

func FuzzP201(f *testing.F) {
	f.Add(0, []byte("1234"), []byte("56789"))
	f.Add(-1, []byte(nil), []byte{0})
	f.Fuzz(func(t *testing.T, sum int, a, b []byte) {
		if got, want := crc.Sum(a, b), slowSum(a, b); got != want || crc.More(crc.Sum(a), b) != want {
			t.Errorf("P201: Sum(%v, %v): %d, not %d", a, b, got, want)
		}
		if got, want := crc.More(sum, a, b), int(crc32.Update(crc32.Update(uint32(sum), crc32.IEEETable, a), crc32.IEEETable, b)); got != want {
			t.Errorf("P201: More(%d, %v, %v): %d, not %d", sum, a, b, got, want)
		}
	})
}
