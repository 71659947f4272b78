package ring_test

import (
	"math"
	"math/big"
	"math/rand"
	"slices"
	"testing"

	"gleaner/ring"
)

// slowRing is a ring as the chapter says, its places by numbers without an end.
type slowRing struct {
	size int
	at   map[int64]int
}

func newSlow(size int, l ...int) *slowRing {
	s := &slowRing{size: 1, at: map[int64]int{}}
	for s.size < size && s.size < 65536 {
		s.size *= 2
	}
	for i, v := range l {
		s.put(i, v)
	}
	return s
}

// placeOf is i less as many whole rounds as bring it into 0, 1, .., size - 1.
func (s *slowRing) placeOf(i *big.Int) int64 {
	return new(big.Int).Mod(i, big.NewInt(int64(s.size))).Int64()
}

func (s *slowRing) get(i int) int { return s.at[s.placeOf(big.NewInt(int64(i)))] }

func (s *slowRing) put(i, v int) { s.at[s.placeOf(big.NewInt(int64(i)))] = v }

func (s *slowRing) grown(from, to int) *slowRing {
	g := newSlow(s.size * 2)
	i, end := big.NewInt(int64(from)), big.NewInt(int64(to))
	for range s.size {
		if i.Cmp(end) >= 0 {
			break
		}
		g.at[g.placeOf(i)] = s.at[s.placeOf(i)]
		i.Add(i, big.NewInt(1))
	}
	return g
}

// both goes the same steps with a ring and with a slow one.
type both struct {
	t    *testing.T
	ring *ring.Ring
	slow *slowRing
}

func (b both) same() {
	b.t.Helper()
	if b.ring.Size() != b.slow.size {
		b.t.Fatalf("P1401: Size %d, not %d", b.ring.Size(), b.slow.size)
	}
	for i := range b.slow.size {
		if got, want := b.ring.Get(i), b.slow.get(i); got != want {
			b.t.Fatalf("P1401: of %d: %d at %d, not %d", b.slow.size, got, i, want)
		}
	}
}

func (b both) get(i int) {
	b.t.Helper()
	if got, want := b.ring.Get(i), b.slow.get(i); got != want {
		b.t.Fatalf("P1401: of %d: Get(%d): %d, not %d", b.slow.size, i, got, want)
	}
}

func (b both) put(i, v int) {
	b.ring.Put(i, v)
	b.slow.put(i, v)
}

func (b both) grown(from, to int) both {
	return both{b.t, b.ring.Grown(from, to), b.slow.grown(from, to)}
}

// anInt is near 0, near an end of the ints, or anywhere.
func anInt(r *rand.Rand) int {
	switch r.Intn(5) {
	case 0:
		return math.MinInt + r.Intn(20)
	case 1:
		return math.MaxInt - r.Intn(20)
	case 2:
		return int(r.Uint64())
	}
	return r.Intn(60) - 30
}

func TestP1401AsSlow(t *testing.T) {
	r := rand.New(rand.NewSource(14))
	for range 400 {
		first := make([]int, r.Intn(12))
		for i := range first {
			first[i] = anInt(r)
		}
		size := r.Intn(20) - 2
		b := both{t, ring.New(size, first...), newSlow(size, first...)}
		b.same()
		for range 40 {
			switch r.Intn(6) {
			case 0, 1:
				b.get(anInt(r))
			case 2, 3:
				b.put(anInt(r), anInt(r))
			default:
				from := anInt(r)
				to := anInt(r)
				if r.Intn(2) == 0 {
					to = from + r.Intn(2*b.slow.size+2)
				}
				g := b.grown(from, to)
				g.same()
				if b.slow.size < 64 && r.Intn(3) == 0 {
					b = g
				}
			}
		}
		b.same()
	}
}

func FuzzP1401(f *testing.F) {
	f.Add(3, 5, 7, 2, 6)
	f.Add(0, -1, 1, math.MinInt, math.MaxInt)
	f.Add(40, math.MaxInt, -1, math.MaxInt, math.MinInt)
	f.Fuzz(func(t *testing.T, size, i, v, from, to int) {
		size = min(size, 300) // the slow one is slow
		first := []int{v, i, from, to}
		b := both{t, ring.New(size, first...), newSlow(size, first...)}
		b.put(i, v)
		b.get(from)
		b.same()
		b.grown(from, to).same()
		b.same()
		if !slices.Equal(first, []int{v, i, from, to}) {
			t.Error("P1402: the list is changed")
		}
	})
}
