package beat_test

import (
	"fmt"
	"math"
	"math/rand"
	"slices"
	"strings"
	"sync"
	"testing"

	"gleaner/beat"
)

// most is the greatest time, and the greatest life.
const most = 1 << 40

// outside are numbers that are no times, and no lives.
func outside() []int {
	return []int{math.MinInt, math.MinInt + 1, math.MinInt32, -most, -2, -1, most + 1, most + 2, 1 << 41, 1 << 62, math.MaxInt - 1, math.MaxInt}
}

// is asks for what a call answered.
func is(t *testing.T, call string, got, want bool) {
	t.Helper()
	if got != want {
		t.Errorf("P1701: %s: %v", call, got)
	}
}

// late asks that just these are late then.
func late(t *testing.T, b *beat.Beats, now int, want ...int) {
	t.Helper()
	if got := b.Late(now); !slices.Equal(got, want) {
		t.Errorf("P1701: Late(%d): %v, not %v", now, got, want)
	}
}

// lives asks that the node is watched in that life.
func lives(t *testing.T, b *beat.Beats, node, want int) {
	t.Helper()
	if got, ok := b.Life(node); got != want || !ok {
		t.Errorf("P1701: Life(%d): %d %v, not %d", node, got, ok, want)
	}
}

// none asks that the node is not watched.
func none(t *testing.T, b *beat.Beats, node int) {
	t.Helper()
	if got, ok := b.Life(node); got != 0 || ok {
		t.Errorf("P1701: Life(%d): %d %v, and it is not watched", node, got, ok)
	}
}

// tell tells all that there is to be asked of nodes that have small numbers and were heard of at small times.
func tell(b *beat.Beats) string {
	var s strings.Builder
	for node := -3; node < 12; node++ {
		life, ok := b.Life(node)
		fmt.Fprintf(&s, "%d: %d %v; ", node, life, ok)
	}
	for now := range 30 {
		fmt.Fprintf(&s, "late at %d: %v; ", now, b.Late(now))
	}
	fmt.Fprintf(&s, "late at last: %v", b.Late(most))
	return s.String()
}

// unchanged asks that what was done since was told, changed nothing.
func unchanged(t *testing.T, b *beat.Beats, was, what string) {
	t.Helper()
	if now := tell(b); now != was {
		t.Fatalf("P1701: %s changed something: %s, not %s", what, now, was)
	}
}

func TestP1701Example(t *testing.T) {
	b := beat.New(5, 1, 2)
	is(t, "Heard(1, 1, 3)", b.Heard(1, 1, 3), true)
	late(t, b, 7, 2)
	late(t, b, 9, 1, 2)
}

func TestP1701NobodyWatched(t *testing.T) {
	for _, x := range []struct {
		b    *beat.Beats
		wait int
	}{{beat.New(5), 5}, {beat.New(-5), 1}, {&beat.Beats{}, 1}} {
		b := x.b
		for _, now := range []int{0, 1, 6, 100, most} {
			late(t, b, now)
		}
		b.Out()
		b.Out(1, 2)
		for _, node := range []int{math.MinInt, -1, 0, 1, math.MaxInt} {
			none(t, b, node)
			is(t, "Heard of none", b.Heard(node, 1, 3) || b.Heard(node, 0, 0), false)
		}
		is(t, "In(1, 0, 7)", b.In(1, 0, 7), true)
		lives(t, b, 1, 0)
		late(t, b, 7+x.wait)
		late(t, b, 8+x.wait, 1)
	}
}

func TestP1701New(t *testing.T) {
	b := beat.New(5, 3, 1, 2)
	for node := 1; node < 4; node++ {
		lives(t, b, node, 1)
	}
	none(t, b, 0)
	none(t, b, 4)
	for now := range 6 {
		late(t, b, now)
	}
	late(t, b, 6, 1, 2, 3)
	late(t, b, 7, 1, 2, 3)
	late(t, b, most, 1, 2, 3)
}

func TestP1701NewEachOnce(t *testing.T) {
	b := beat.New(5, 7, 7, -1, 7, -1)
	late(t, b, 6, -1, 7)
	is(t, "Heard(7, 1, 1)", b.Heard(7, 1, 1), true)
	late(t, b, 6, -1)
	b.Out(7)
	none(t, b, 7)
	late(t, b, 100, -1)
	is(t, "In(7, 2, 50)", b.In(7, 2, 50), true)
	late(t, b, 100, -1, 7)
}

// A wait below 1 is 1; a long one comes to no end before time does.
func TestP1701Wait(t *testing.T) {
	for _, x := range []struct{ wait, want int }{
		{math.MinInt, 1}, {math.MinInt + 1, 1}, {-most, 1}, {-5, 1}, {-1, 1}, {0, 1}, {1, 1}, {2, 2}, {3, 3}, {300, 300},
		{1 << 31, 1 << 31}, {1 << 32, 1 << 32}, {most - 2, most - 2}, {most - 1, most - 1},
	} {
		b := beat.New(x.wait, 4)
		late(t, b, 0)
		late(t, b, x.want-1)
		late(t, b, x.want)
		late(t, b, x.want+1, 4)
		is(t, "Heard(4, 1, 1)", b.Heard(4, 1, 1), true)
		late(t, b, x.want+1)
		if x.want+2 <= most {
			late(t, b, x.want+2, 4)
		}
	}
	for _, wait := range []int{most, most + 1, 1 << 62, math.MaxInt - 1, math.MaxInt} {
		b := beat.New(wait, 4)
		for _, now := range []int{0, 1, 1 << 32, most - 1, most} {
			late(t, b, now)
		}
	}
}

// The greatest time counts, in whichever order the times come.
func TestP1701HeardGreatest(t *testing.T) {
	times := []int{0, 3, 8, 9}
	for _, x := range [][]int{{0}, {1, 0}, {0, 1, 2, 3}, {3, 2, 1, 0}, {2, 0, 3, 1}, {1, 3, 0, 2}, {3, 3, 0}, {2, 2}, {2, 1, 0}} {
		b := beat.New(2, 1)
		last := 0
		for _, k := range x {
			is(t, "Heard", b.Heard(1, 1, times[k]), true)
			last = max(last, times[k])
			late(t, b, last+2)
			late(t, b, last+3, 1)
		}
	}
}

// Those that were heard of later than now are not late.
func TestP1701LateEarlier(t *testing.T) {
	b := beat.New(1, 1, 2)
	b.Heard(1, 1, 20)
	b.Heard(2, 1, most)
	late(t, b, 0)
	late(t, b, 1)
	late(t, b, 20)
	late(t, b, 21)
	late(t, b, 22, 1)
	late(t, b, most, 1)
	late(t, b, 3)
}

// Of another life, and of nodes that are not watched.
func TestP1701HeardOfOthers(t *testing.T) {
	b := beat.New(5, 1, 2, 3)
	b.Heard(1, 1, 2)
	b.Out(2, 3)
	is(t, "In(3, 4, 1)", b.In(3, 4, 1), true)
	was := tell(b)
	for _, life := range append(outside(), 0, 1, 2, 3, 4, 5, 99, most) {
		for _, node := range []int{math.MinInt, -1, 0, 1, 2, 3, 4, math.MaxInt} {
			if node == 1 && life == 1 || node == 3 && life == 4 {
				continue
			}
			for _, now := range []int{0, 9, most} {
				call := fmt.Sprintf("Heard(%d, %d, %d)", node, life, now)
				is(t, call, b.Heard(node, life, now), false)
				unchanged(t, b, was, call)
			}
		}
	}
	is(t, "Heard(1, 1, 9)", b.Heard(1, 1, 9), true)
	is(t, "Heard(3, 4, 9)", b.Heard(3, 4, 9), true)
	late(t, b, 14)
	late(t, b, 15, 1, 3)
}

func TestP1701LateRising(t *testing.T) {
	nodes := []int{9, -1, 10, math.MaxInt, 0, 2, math.MinInt, -10, 1 << 40, -2, 100, 1, 15, -1 << 40}
	rising := []int{math.MinInt, -1 << 40, -10, -2, -1, 0, 1, 2, 9, 10, 15, 100, 1 << 40, math.MaxInt}
	r := rand.New(rand.NewSource(1701))
	for range 50 {
		r.Shuffle(len(nodes), func(i, k int) { nodes[i], nodes[k] = nodes[k], nodes[i] })
		b := beat.New(5, nodes...)
		late(t, b, 6, rising...)
		for k, node := range nodes {
			is(t, "Heard", b.Heard(node, 1, k+1), true)
		}
		for k := range nodes {
			want := slices.Sorted(slices.Values(nodes[:k+1]))
			late(t, b, k+7, want...)
		}
	}
}

// To ask changes nothing: not for a time, nor whoever is late then.
func TestP1701Asking(t *testing.T) {
	b := beat.New(2, 1, 2, 3)
	b.Heard(2, 1, 4)
	was := tell(b)
	late(t, b, most, 1, 2, 3)
	late(t, b, 3, 1, 3)
	late(t, b, 2)
	is(t, "Heard(1, 1, 0)", b.Heard(1, 1, 0), true) // late ones are watched still
	unchanged(t, b, was, "asking")
}

func TestP1701Out(t *testing.T) {
	b := beat.New(5, 1, 2, 3, 4, 5, 6)
	b.Out()
	late(t, b, 6, 1, 2, 3, 4, 5, 6)
	b.Out(4)
	late(t, b, 6, 1, 2, 3, 5, 6)
	b.Out(4, 4, 99, -1, math.MinInt, 2, 2, 6)
	late(t, b, 6, 1, 3, 5)
	for _, node := range []int{2, 4, 6, 99} {
		none(t, b, node)
		is(t, "Heard of one that is out", b.Heard(node, 1, 3), false)
	}
	for _, node := range []int{1, 3, 5} {
		lives(t, b, node, 1)
	}
	b.Out(5, 3, 1)
	late(t, b, most)
}

func TestP1701In(t *testing.T) {
	b := beat.New(5, 1, 2)
	b.Out(1)
	is(t, "In(1, 2, 7)", b.In(1, 2, 7), true)
	lives(t, b, 1, 2)
	late(t, b, 12, 2)
	late(t, b, 13, 1, 2)
	is(t, "Heard(1, 1, 9)", b.Heard(1, 1, 9), false)
	is(t, "Heard(1, 2, 9)", b.Heard(1, 2, 9), true)
	late(t, b, 13, 2)
	is(t, "In(9, 7, 4)", b.In(9, 7, 4), true) // one that never was here
	lives(t, b, 9, 7)
	late(t, b, 10, 2, 9)
	is(t, "In(-9, 0, 0)", b.In(-9, 0, 0), true)
	lives(t, b, -9, 0)
	late(t, b, 10, -9, 2, 9)
}

// When it was heard of in an earlier life counts no more, also if that was later.
func TestP1701InForgetsTimes(t *testing.T) {
	b := beat.New(5, 1)
	b.Heard(1, 1, 20)
	b.Out(1)
	is(t, "In(1, 2, 3)", b.In(1, 2, 3), true)
	late(t, b, 8)
	late(t, b, 9, 1)
	b.Heard(1, 2, 4)
	late(t, b, 9)
	late(t, b, 10, 1)
}

func TestP1701InOfWatched(t *testing.T) {
	b := beat.New(5, 1, 2)
	b.Out(2)
	b.In(2, 6, 3)
	was := tell(b)
	for _, node := range []int{1, 2} {
		for _, life := range append(outside(), 0, 1, 2, 5, 6, 7, 100, most) {
			call := fmt.Sprintf("In(%d, %d, 9)", node, life)
			is(t, call, b.In(node, life, 9), false)
			unchanged(t, b, was, call)
		}
	}
}

// A life is to be above each one that the node ever had here: none other counts, not one of another node, not one that was refused.
func TestP1701InLives(t *testing.T) {
	b := beat.New(5, 1, 2)
	b.Out(2)
	b.In(2, 1000, 0)
	b.Out(1)
	had := 1
	for _, life := range []int{2, 3, 9, 10, 100, most - 1, most} {
		b.Heard(1, most, 1)
		is(t, "In outside of time", b.In(1, most, -1) || b.In(1, most, most+1), false)
		is(t, "In of no life", b.In(1, -1, 1) || b.In(1, most+1, 1), false)
		for _, low := range []int{0, 1, 2, had / 2, had - 1, had} {
			if low > had {
				continue
			}
			call := fmt.Sprintf("In(1, %d, 9) behind %d", low, had)
			is(t, call, b.In(1, low, 9), false)
			none(t, b, 1)
		}
		is(t, fmt.Sprintf("In(1, %d, 9) behind %d", life, had), b.In(1, life, 9), true)
		is(t, "In of one that is watched", b.In(1, most, 9), false)
		lives(t, b, 1, life)
		b.Out(1)
		had = life
	}
	is(t, "In of the last life", b.In(1, most, 9), false)
	lives(t, b, 2, 1000)
}

// A life 0 is one that it had, too.
func TestP1701InOfLife0(t *testing.T) {
	b := beat.New(5)
	is(t, "In(3, 0, 2)", b.In(3, 0, 2), true)
	is(t, "Heard(3, 0, 4)", b.Heard(3, 0, 4), true)
	is(t, "Heard(3, 1, 5)", b.Heard(3, 1, 5), false)
	late(t, b, 9)
	late(t, b, 10, 3)
	b.Out(3)
	none(t, b, 3)
	is(t, "In(3, 0, 2) again", b.In(3, 0, 2), false)
	is(t, "In(3, 1, 2)", b.In(3, 1, 2), true)
	lives(t, b, 3, 1)
}

func TestP1701AnyNode(t *testing.T) {
	for _, node := range []int{math.MinInt, math.MinInt + 1, -1 << 32, -1, 0, 1, 15, 16, 1 << 32, 1 << 41, math.MaxInt - 1, math.MaxInt} {
		b := beat.New(1, node)
		lives(t, b, node, 1)
		late(t, b, 2, node)
		is(t, "Heard", b.Heard(node, 1, 2), true)
		late(t, b, 3)
		b.Out(node)
		none(t, b, node)
		is(t, "In", b.In(node, 2, 5), true)
		late(t, b, 7, node)
	}
}

// Of many nodes, the calls that are of one take a time that is not theirs all: else this would take hours.
func TestP1701OfMany(t *testing.T) {
	const many = 1 << 18
	nodes := make([]int, many)
	for k := range nodes {
		nodes[k] = (k*7919 + 5) % many
	}
	b := beat.New(10, nodes...)
	for k := range many {
		if !b.Heard(k, 1, k) {
			t.Fatalf("P1701: Heard(%d)", k)
		}
	}
	if l := b.Late(many/2 + 10); len(l) != many/2 || !slices.IsSorted(l) || l[many/2-1] != many/2-1 {
		t.Fatalf("P1701: Late of many: %d", len(l))
	}
	b.Out(nodes[:many/2]...)
	for k, node := range nodes {
		if ok := b.In(node, 2, 0); ok != (k < many/2) {
			t.Fatalf("P1701: In(%d): %v", node, ok)
		}
	}
	if l := b.Late(most); len(l) != many {
		t.Fatalf("P1701: Late of all: %d", len(l))
	}
}

func TestP1702Ends(t *testing.T) {
	for _, x := range []int{0, 1, 2, 1 << 31, 1 << 32, most - 1, most} {
		b := beat.New(1, 1)
		is(t, fmt.Sprintf("Heard(1, 1, %d)", x), b.Heard(1, 1, x), true)
		late(t, b, x)
		late(t, b, min(x+1, most))
		b.Out(1)
		is(t, fmt.Sprintf("In(2, %d, %d)", x, x), b.In(2, x, x), true)
		lives(t, b, 2, x)
		is(t, fmt.Sprintf("Heard(2, %d, %d)", x, most-x), b.Heard(2, x, most-x), true)
		late(t, b, max(x, most-x))
	}
}

func TestP1702Outside(t *testing.T) {
	b := beat.New(1, 1, 2)
	b.Heard(1, 1, 3)
	b.Out(2)
	was := tell(b)
	for _, x := range outside() {
		is(t, fmt.Sprintf("Heard(1, 1, %d)", x), b.Heard(1, 1, x), false)
		is(t, fmt.Sprintf("Heard(1, %d, 9)", x), b.Heard(1, x, 9), false)
		is(t, fmt.Sprintf("Heard(1, %d, %d)", x, x), b.Heard(1, x, x), false)
		is(t, fmt.Sprintf("In(2, 5, %d)", x), b.In(2, 5, x), false)
		is(t, fmt.Sprintf("In(2, %d, 9)", x), b.In(2, x, 9), false)
		is(t, fmt.Sprintf("In(3, 5, %d)", x), b.In(3, 5, x), false)
		is(t, fmt.Sprintf("In(3, %d, 9)", x), b.In(3, x, 9), false)
		is(t, fmt.Sprintf("In(3, %d, %d)", x, x), b.In(3, x, x), false)
		late(t, b, x)
		unchanged(t, b, was, fmt.Sprintf("%d", x))
	}
	late(t, b, 5, 1)
	is(t, "In(2, 2, 9)", b.In(2, 2, 9), true) // the greater lives were not had
	is(t, "In(3, 0, 9)", b.In(3, 0, 9), true)
}

func TestP1702NewMemory(t *testing.T) {
	b := beat.New(1, 4, 1, 3, 2)
	was := tell(b)
	l, again := b.Late(2), b.Late(2)
	for k := range l {
		l[k] = 99
	}
	_ = append(l[:1], 98, 98)
	if !slices.Equal(again, []int{1, 2, 3, 4}) {
		t.Errorf("P1702: two answers are one memory: %v", again)
	}
	unchanged(t, b, was, "what was done to an answer")
	b.Out(1, 3)
	b.Heard(2, 1, 9)
	if !slices.Equal(again, []int{1, 2, 3, 4}) {
		t.Errorf("P1702: an answer has changed: %v", again)
	}
}

// Lists that are handed in are neither changed nor kept.
func TestP1702HandedIn(t *testing.T) {
	l := append(make([]int, 0, 8), 5, 1, 5, 3)
	spare := l[:8]
	b := beat.New(1, l...)
	if !slices.Equal(spare, []int{5, 1, 5, 3, 0, 0, 0, 0}) {
		t.Errorf("P1702: New changed what was handed in: %v", spare)
	}
	for k := range spare {
		spare[k] = 9
	}
	late(t, b, 2, 1, 3, 5)
	l = append(l[:0], 3, 7, 3)
	copy(spare[3:], []int{0, 0, 0, 0, 0})
	b.Out(l...)
	if !slices.Equal(spare, []int{3, 7, 3, 0, 0, 0, 0, 0}) {
		t.Errorf("P1702: Out changed what was handed in: %v", spare)
	}
	for k := range spare {
		spare[k] = 1
	}
	late(t, b, 2, 1, 5)
}

func TestP1702Two(t *testing.T) {
	a, b := beat.New(1, 1, 2), beat.New(3, 1, 2)
	was := tell(b)
	a.Heard(1, 1, 9)
	a.Out(2)
	a.In(2, 7, 8)
	a.In(5, 3, 3)
	unchanged(t, b, was, "what another one was told")
	was = tell(a)
	b.Out(1, 5)
	b.Heard(2, 1, 11)
	is(t, "In(1, 2, 2)", b.In(1, 2, 2), true)
	unchanged(t, a, was, "what another one was told")
	late(t, a, 9, 5)
	late(t, b, 9, 1)
}

// play tells one what the seed says, and tells all that it answers.
func play(b *beat.Beats, seed int64) string {
	r := rand.New(rand.NewSource(seed))
	var s strings.Builder
	for range 200 {
		node, life, now := r.Intn(6), r.Intn(6), r.Intn(20)
		switch r.Intn(4) {
		case 0, 1:
			fmt.Fprint(&s, b.Heard(node, life, now))
		case 2:
			b.Out(node)
		case 3:
			fmt.Fprint(&s, b.In(node, life, now))
		}
		fmt.Fprintln(&s, tell(b))
	}
	return s.String()
}

func TestP1702EachByItself(t *testing.T) {
	var told [16]string
	var all sync.WaitGroup
	for k := range told {
		all.Go(func() { told[k] = play(beat.New(3, 0, 1, 2, 3), int64(k/2)) })
	}
	all.Wait()
	for k := 0; k < len(told); k += 2 {
		if told[k] != told[k+1] {
			t.Errorf("P1702: two that were told the same answer two things:\n%s\n%s", told[k], told[k+1])
		}
	}
}
