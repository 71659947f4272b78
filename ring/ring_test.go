package ring_test

import (
	"math"
	"slices"
	"testing"

	"gleaner/ring"
)

// all answers what stands at 0, 1, .. of r.
func all(r *ring.Ring) []int {
	var out []int
	for i := range r.Size() {
		out = append(out, r.Get(i))
	}
	return out
}

func wantAll(t *testing.T, what string, r *ring.Ring, want ...int) {
	t.Helper()
	if got := all(r); !slices.Equal(got, want) {
		t.Errorf("%s: %v, not %v", what, got, want)
	}
}

func TestP1401SizeIsRoundedUp(t *testing.T) {
	for _, x := range [][2]int{
		{math.MinInt, 1}, {-65536, 1}, {-1, 1}, {0, 1}, {1, 1}, {2, 2}, {3, 4}, {4, 4}, {5, 8}, {8, 8}, {9, 16},
		{32767, 32768}, {32768, 32768}, {32769, 65536}, {65535, 65536}, {65536, 65536}, {65537, 65536}, {131072, 65536},
		{1 << 62, 65536}, {1<<62 + 1, 65536}, {math.MaxInt, 65536},
	} {
		if got := ring.New(x[0]).Size(); got != x[1] {
			t.Errorf("P1401: New(%d): Size %d, not %d", x[0], got, x[1])
		}
	}
}

func TestP1401SizeOfEach(t *testing.T) {
	want := 1
	for size := 1; size <= 70000; size = size + 1 + size/50 {
		for want < size && want < 65536 {
			want *= 2
		}
		if got := ring.New(size).Size(); got != want {
			t.Fatalf("P1401: New(%d): Size %d, not %d", size, got, want)
		}
	}
}

func TestP1401NewIsZeros(t *testing.T) {
	wantAll(t, "P1401: New(3)", ring.New(3), 0, 0, 0, 0)
	for i, v := range all(ring.New(65536)) {
		if v != 0 {
			t.Fatalf("P1401: New(65536): %d at %d", v, i)
		}
	}
}

func TestP1401NewPutsFirstNumbers(t *testing.T) {
	wantAll(t, "P1401: fewer than Size", ring.New(3, 10, 11), 10, 11, 0, 0)
	wantAll(t, "P1401: more than size, as many as Size", ring.New(3, 10, 11, 12, 13), 10, 11, 12, 13)
	wantAll(t, "P1401: one behind Size", ring.New(3, 10, 11, 12, 13, 14), 14, 11, 12, 13)
	wantAll(t, "P1401: round and round", ring.New(2, 1, 2, 3, 4, 5, 6, 7), 7, 6)
	wantAll(t, "P1401: one place", ring.New(-3, 1, 2, 3), 3)
	wantAll(t, "P1401: any ints", ring.New(2, math.MinInt, math.MaxInt), math.MinInt, math.MaxInt)
	wantAll(t, "P1401: the first numbers don't tell the size", ring.New(0, 5, 6), 6)
	wantAll(t, "P1401: an empty list", ring.New(2, []int{}...), 0, 0)
	many := make([]int, 65537)
	many[0], many[1], many[65535], many[65536] = 1, 2, 3, 4
	r := ring.New(math.MaxInt, many...)
	if r.Get(0) != 4 || r.Get(1) != 2 || r.Get(65535) != 3 {
		t.Errorf("P1401: one more than the most: %d %d %d", r.Get(0), r.Get(1), r.Get(65535))
	}
}

func TestP1401Example(t *testing.T) {
	r := ring.New(3)
	r.Put(5, 7)
	if r.Size() != 4 || r.Get(1) != 7 {
		t.Errorf("P1401: Size %d, Get(1) %d", r.Size(), r.Get(1))
	}
	wantAll(t, "P1401: the example", r, 0, 7, 0, 0)
}

func TestP1401PlacesGoRound(t *testing.T) {
	r := ring.New(4, 10, 11, 12, 13)
	for _, x := range [][2]int{
		{-9, 13}, {-8, 10}, {-5, 13}, {-4, 10}, {-3, 11}, {-2, 12}, {-1, 13}, {0, 10}, {3, 13}, {4, 10}, {5, 11}, {7, 13}, {8, 10},
		{math.MinInt, 10}, {math.MinInt + 1, 11}, {math.MaxInt, 13}, {math.MaxInt - 1, 12}, {math.MaxInt - 3, 10},
	} {
		if got := r.Get(x[0]); got != x[1] {
			t.Errorf("P1401: Get(%d): %d, not %d", x[0], got, x[1])
		}
	}
	for _, size := range []int{1, 2, 4, 65536} {
		r := ring.New(size)
		for _, i := range []int{math.MinInt, -65537, -1, 0, 1, 65535, 65536, math.MaxInt - 65536} {
			r.Put(i, i)
			if r.Get(i) != i || r.Get(i+size) != i {
				t.Errorf("P1401: of %d, behind Put(%d): %d, and %d one round on", size, i, r.Get(i), r.Get(i+size))
			}
		}
	}
}

func TestP1401PutIsOfOnePlace(t *testing.T) {
	for _, x := range []struct{ i, at int }{
		{0, 0}, {3, 3}, {4, 0}, {6, 2}, {-1, 3}, {-3, 1}, {-4, 0}, {math.MinInt, 0}, {math.MaxInt, 3},
	} {
		r := ring.New(4, 10, 11, 12, 13)
		want := []int{10, 11, 12, 13}
		r.Put(x.i, math.MinInt)
		want[x.at] = math.MinInt
		wantAll(t, "P1401: Put", r, want...)
		r.Put(x.i, 0)
		want[x.at] = 0
		wantAll(t, "P1401: Put again", r, want...)
	}
}

func TestP1401GetChangesNothing(t *testing.T) {
	r := ring.New(4, 10, 11, 12, 13)
	r.Get(2)
	r.Get(-7)
	wantAll(t, "P1401: Get", r, 10, 11, 12, 13)
	if r.Size() != 4 {
		t.Errorf("P1401: Size %d", r.Size())
	}
}

func TestP1401Grown(t *testing.T) {
	for _, x := range []struct {
		from, to int
		want     []int
	}{
		{0, 4, []int{10, 11, 12, 13, 0, 0, 0, 0}},
		{0, 1, []int{10, 0, 0, 0, 0, 0, 0, 0}},
		{3, 4, []int{0, 0, 0, 13, 0, 0, 0, 0}},
		{2, 6, []int{0, 0, 12, 13, 10, 11, 0, 0}},
		{6, 9, []int{10, 0, 0, 0, 0, 0, 12, 13}},
		{7, 8, []int{0, 0, 0, 0, 0, 0, 0, 13}},
		{8, 9, []int{10, 0, 0, 0, 0, 0, 0, 0}},
		{-3, 0, []int{0, 0, 0, 0, 0, 11, 12, 13}},
		{-2, 2, []int{10, 11, 0, 0, 0, 0, 12, 13}},
		{-5, -4, []int{0, 0, 0, 13, 0, 0, 0, 0}},
		{math.MinInt, math.MinInt + 2, []int{10, 11, 0, 0, 0, 0, 0, 0}},
		{math.MaxInt - 1, math.MaxInt, []int{0, 0, 0, 0, 0, 0, 12, 0}},
	} {
		r := ring.New(4, 10, 11, 12, 13)
		wantAll(t, "P1401: Grown", r.Grown(x.from, x.to), x.want...)
		wantAll(t, "P1401: Grown changed its own", r, 10, 11, 12, 13)
	}
}

func TestP1401GrownOfNone(t *testing.T) {
	r := ring.New(2, 10, 11)
	for _, x := range [][2]int{
		{0, 0}, {1, 1}, {1, 0}, {-1, -1}, {0, -1}, {9, 2}, {math.MinInt, math.MinInt}, {math.MaxInt, math.MaxInt},
		{math.MaxInt, math.MinInt}, {0, math.MinInt}, {math.MaxInt, 0}, {math.MaxInt, -1}, {-1, math.MinInt},
	} {
		wantAll(t, "P1401: nothing of none", r.Grown(x[0], x[1]), 0, 0, 0, 0)
	}
}

func TestP1401GrownOfAtMostSize(t *testing.T) {
	r := ring.New(4, 10, 11, 12, 13)
	for _, x := range []struct {
		from, to int
		want     []int
	}{
		{0, 5, []int{10, 11, 12, 13, 0, 0, 0, 0}},
		{1, 6, []int{0, 11, 12, 13, 10, 0, 0, 0}},
		{1, math.MaxInt, []int{0, 11, 12, 13, 10, 0, 0, 0}},
		{-1, math.MaxInt, []int{10, 11, 12, 0, 0, 0, 0, 13}},
		{-2, 8, []int{10, 11, 0, 0, 0, 0, 12, 13}},
		{math.MinInt, 0, []int{10, 11, 12, 13, 0, 0, 0, 0}},
		{math.MinInt, -1, []int{10, 11, 12, 13, 0, 0, 0, 0}},
		{math.MinInt + 3, math.MaxInt, []int{0, 0, 0, 13, 10, 11, 12, 0}},
		{math.MaxInt - 4, math.MaxInt, []int{0, 0, 0, 13, 10, 11, 12, 0}},
		{math.MaxInt - 5, math.MaxInt, []int{0, 0, 12, 13, 10, 11, 0, 0}},
	} {
		wantAll(t, "P1401: at most Size", r.Grown(x.from, x.to), x.want...)
	}
}

func TestP1401GrownGrowsUpToTheMost(t *testing.T) {
	r := ring.New(0, 7)
	for want := 2; want <= 65536; want *= 2 {
		r = r.Grown(0, 1)
		if r.Size() != want || r.Get(0) != 7 {
			t.Fatalf("P1401: Size %d, not %d; %d at 0", r.Size(), want, r.Get(0))
		}
	}
	r.Put(1, 8)
	r.Put(-1, 9)
	g := r.Grown(-1, 1)
	if g.Size() != 65536 || g.Get(-1) != 9 || g.Get(0) != 7 || g.Get(1) != 0 {
		t.Errorf("P1401: of the most: Size %d, %d %d %d", g.Size(), g.Get(-1), g.Get(0), g.Get(1))
	}
	whole := r.Grown(math.MinInt, math.MaxInt)
	if !slices.Equal(all(whole), all(r)) {
		t.Error("P1401: of the most, all of it: another row")
	}
}

func TestP1402TwoRings(t *testing.T) {
	a, b := ring.New(2, 1, 2), ring.New(2, 1, 2)
	a.Put(0, 5)
	wantAll(t, "P1402: b, of as many", b, 1, 2)
	b.Put(1, 6)
	wantAll(t, "P1402: a", a, 5, 2)
	wantAll(t, "P1402: b", b, 1, 6)
}

func TestP1402GrownIsAnother(t *testing.T) {
	r := ring.New(2, 1, 2)
	g, h := r.Grown(0, 2), r.Grown(0, 2)
	r.Put(0, 5)
	wantAll(t, "P1402: g", g, 1, 2, 0, 0)
	g.Put(1, 6)
	wantAll(t, "P1402: r", r, 5, 2)
	wantAll(t, "P1402: h", h, 1, 2, 0, 0)
	most := ring.New(65536, 1, 2)
	for _, g := range []*ring.Ring{most.Grown(0, 0), most.Grown(0, 2), most.Grown(math.MinInt, math.MaxInt)} {
		g.Put(1, 9)
		if most.Get(1) != 2 {
			t.Fatal("P1402: of the most, the grown ring is the ring")
		}
	}
}

func TestP1402ListIsNotKept(t *testing.T) {
	for _, size := range []int{1, 2, 4} { // fewer places than numbers, as many, and more
		room := []int{1, 2, 8, 9, 9, 9, 9, 9, 9, 9} // with spare room behind the two
		r := ring.New(size, room[:2]...)
		other := ring.New(size, room[:2]...)
		was := all(other)
		r.Put(0, 5)
		r.Put(-1, 5)
		if !slices.Equal(room, []int{1, 2, 8, 9, 9, 9, 9, 9, 9, 9}) {
			t.Errorf("P1402: of %d: the list is changed: %v", size, room)
		}
		for i := range room {
			room[i] = 7
		}
		wantAll(t, "P1402: of one list", other, was...)
	}
}

// A Ring that New did not make is promised nothing but that no call panics.
func TestP1401RingOfNone(t *testing.T) {
	var r, q, g ring.Ring
	if r.Size() != 1 || r.Get(math.MinInt) != 0 {
		t.Errorf("P1401: Size %d, %d", r.Size(), r.Get(math.MinInt))
	}
	q.Put(-1, 5)
	wantAll(t, "P1401: Put", &q, 5)
	wantAll(t, "P1401: Grown", g.Grown(math.MinInt, math.MaxInt), 0, 0)
}
