package beat_test

import (
	"fmt"
	"math"
	"math/rand"
	"slices"
	"strings"
	"testing"

	"gleaner/beat"
)

// The calls, as a slow one has them.
const (
	hears = iota
	goes
	comes
	calls // how many there are
)

// event is a call that was not refused.
type event struct{ call, node, life, now int }

// slowBeats keeps all that happened, and looks through it for each answer.
type slowBeats struct {
	wait   int
	events []event
}

func newSlow(wait int, nodes ...int) *slowBeats {
	s := &slowBeats{wait: wait}
	if wait < 1 {
		s.wait = 1
	}
	for _, node := range nodes {
		if _, ok := s.life(node); !ok {
			s.events = append(s.events, event{comes, node, 1, 0})
		}
	}
	return s
}

// now answers what happened to the node since it came in last; nothing: it is not watched.
func (s *slowBeats) now(node int) []event {
	var l []event
	for _, e := range s.events {
		if e.node == node && e.call != hears {
			l = nil
		}
		if e.node == node && e.call != goes {
			l = append(l, e)
		}
	}
	return l
}

func (s *slowBeats) life(node int) (int, bool) {
	l := s.now(node)
	if len(l) == 0 {
		return 0, false
	}
	return l[0].life, true
}

func (s *slowBeats) late(now int) []int {
	late := map[int]bool{}
	for _, e := range s.events {
		l := s.now(e.node)
		if len(l) == 0 || now < 0 || now > most {
			continue
		}
		last := slices.MaxFunc(l, func(x, y event) int { return x.now - y.now })
		if now-last.now > s.wait {
			late[e.node] = true
		}
	}
	var out []int
	for node := range late {
		out = append(out, node)
	}
	slices.Sort(out)
	return out
}

func (s *slowBeats) heard(node, life, now int) bool {
	was, ok := s.life(node)
	if !ok || was != life || now < 0 || now > most {
		return false
	}
	s.events = append(s.events, event{hears, node, life, now})
	return true
}

func (s *slowBeats) out(nodes ...int) {
	for _, node := range nodes {
		if _, ok := s.life(node); ok {
			s.events = append(s.events, event{goes, node, 0, 0})
		}
	}
}

func (s *slowBeats) in(node, life, now int) bool {
	if _, ok := s.life(node); ok || life < 0 || life > most || now < 0 || now > most {
		return false
	}
	for _, e := range s.events {
		if e.call == comes && e.node == node && e.life >= life {
			return false
		}
	}
	s.events = append(s.events, event{comes, node, life, now})
	return true
}

// both are one and a slow one that are told the same.
type both struct {
	t    *testing.T
	fast *beat.Beats
	slow *slowBeats
	told []string // the calls, so that a failure tells them
}

func newBoth(t *testing.T, wait int, nodes ...int) *both {
	return &both{t, beat.New(wait, nodes...), newSlow(wait, nodes...), []string{fmt.Sprintf("New(%d, %v)", wait, nodes)}}
}

func (b *both) fail(what string, args ...any) {
	b.t.Helper()
	b.t.Fatalf("P1701: %s, behind %s", fmt.Sprintf(what, args...), strings.Join(b.told, ", "))
}

// do does one call with both, and asks that they answer the same; more are further nodes that go.
func (b *both) do(call, node, life, now int, more ...int) {
	b.t.Helper()
	var got, want bool
	switch call {
	case hears:
		b.told = append(b.told, fmt.Sprintf("Heard(%d, %d, %d)", node, life, now))
		got, want = b.fast.Heard(node, life, now), b.slow.heard(node, life, now)
	case goes:
		l := append([]int{node}, more...)
		b.told = append(b.told, fmt.Sprintf("Out%v", l))
		b.fast.Out(l...)
		b.slow.out(l...)
	default:
		b.told = append(b.told, fmt.Sprintf("In(%d, %d, %d)", node, life, now))
		got, want = b.fast.In(node, life, now), b.slow.in(node, life, now)
	}
	if got != want {
		b.fail("%v, not %v", got, want)
	}
}

// same asks that both answer the same of a node, and of a time.
func (b *both) same(node, now int) {
	b.t.Helper()
	got, ok := b.fast.Life(node)
	if want, is := b.slow.life(node); got != want || ok != is {
		b.fail("Life(%d): %d %v, not %d %v", node, got, ok, want, is)
	}
	if got, want := b.fast.Late(now), b.slow.late(now); !slices.Equal(got, want) {
		b.fail("Late(%d): %v, not %v", now, got, want)
	}
}

// someTime makes a time, or a life, mostly a small one, now and then one that can't be.
func someTime(r *rand.Rand) int {
	switch r.Intn(12) {
	case 0:
		return most + r.Intn(7) - 4
	case 1:
		return -r.Intn(3)
	case 2:
		return int(r.Uint64())
	}
	return r.Intn(10)
}

func someNode(r *rand.Rand) int {
	return []int{0, 1, 2, 3, 4, 5, 15, -1, math.MinInt, math.MaxInt}[r.Intn(10)]
}

func TestP1701AsSlow(t *testing.T) {
	r := rand.New(rand.NewSource(17))
	for range 1000 {
		nodes := make([]int, r.Intn(6))
		for k := range nodes {
			nodes[k] = someNode(r)
		}
		b := newBoth(t, r.Intn(10)-2, nodes...)
		for range 80 {
			call := r.Intn(calls + 2)
			if call >= calls {
				call = hears
			}
			node, life, now := someNode(r), someTime(r), someTime(r)
			if was, ok := b.slow.life(node); ok && r.Intn(2) == 0 {
				life = was
			}
			b.do(call, node, life, now, nodes[:r.Intn(len(nodes)+1)/2]...)
			b.same(node, now)
			b.same(someNode(r), someTime(r))
		}
	}
}

// Each row of four calls, of one node that is watched and one that is not.
func TestP1701EachShortScript(t *testing.T) {
	var steps []event
	for _, node := range []int{1, 2} {
		for _, life := range []int{0, 1, 2} {
			for _, now := range []int{0, 2} {
				steps = append(steps, event{hears, node, life, now}, event{comes, node, life, now})
			}
		}
		steps = append(steps, event{goes, node, 0, 0})
	}
	var l [4]int
	for going := true; going; going = count(l[:], len(steps)) {
		b := newBoth(t, 1, 1)
		for _, k := range l {
			b.do(steps[k].call, steps[k].node, steps[k].life, steps[k].now)
		}
		for now := range 5 {
			b.same(1+now%2, now)
		}
	}
}

// count goes on to the next row of numbers below n; false: it was the last.
func count(l []int, n int) bool {
	for k := range l {
		if l[k]++; l[k] < n {
			return true
		}
		l[k] = 0
	}
	return false
}

func FuzzP1701(f *testing.F) {
	f.Add(5, []byte("\x01\x02"), []byte("\x00\x01\x01\x03\x01\x01\x00\x00\x02\x01\x02\x04"))
	f.Add(-1, []byte(""), []byte("\x02\x07\x00\x00\x00\x07\x00\x09"))
	f.Add(math.MaxInt, []byte("\x03\x03"), []byte("\x01\x03\x00\x00\x02\x03\x01\x00\x02\x03\xff\x00"))
	f.Fuzz(func(t *testing.T, wait int, nodes, script []byte) {
		var l []int
		for _, x := range nodes {
			l = append(l, int(int8(x)))
		}
		b := newBoth(t, wait, l...)
		for script = script[:min(len(script), 400)]; len(script) >= 4; script = script[4:] {
			node, life, now := int(int8(script[1])), int(int8(script[2])), int(int8(script[3]))
			if script[0]&64 != 0 {
				now += most - 100
			}
			if script[0]&128 != 0 {
				life += most - 100
			}
			b.do(int(script[0]&63)%calls, node, life, now, life)
			b.same(node, now)
			b.same(life, now+wait)
		}
	})
}
