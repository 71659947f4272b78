package deque_test

import (
	"iter"
	"math/rand"
	"slices"
	"testing"

	"gleaner/api"
	"gleaner/deque"
)

// slowDeque is a row as the chapter says, of places without an end, its calls written from top to bottom.
type slowDeque struct {
	top, bottom int
	at          map[int]int
	calls       map[int]func() (int, int, bool)
}

func newSlow() *slowDeque {
	return &slowDeque{at: map[int]int{}, calls: map[int]func() (int, int, bool){}}
}

func (s *slowDeque) begin(who, call, item int) {
	steps := s.steal()
	switch call {
	case api.DPush:
		steps = s.push(item)
	case api.DPop:
		steps = s.pop()
	}
	s.calls[who], _ = iter.Pull2(steps)
}

func (s *slowDeque) step(who int) (int, int) {
	next := s.calls[who]
	if next == nil {
		return api.DGoes, 0
	}
	answer, v, _ := next()
	if answer != api.DGoes {
		next() // so that it ends
		delete(s.calls, who)
	}
	return answer, v
}

func (s *slowDeque) items() []int {
	var out []int
	for i := s.top; i < s.bottom; i++ {
		out = append(out, s.at[i])
	}
	return out
}

func (s *slowDeque) push(item int) iter.Seq2[int, int] {
	return func(answer func(int, int) bool) {
		b := s.bottom
		answer(api.DGoes, 0)
		answer(api.DGoes, 0) // places without an end need not grow
		s.at[b] = item
		answer(api.DGoes, 0)
		s.bottom = b + 1
		answer(api.DDone, 0)
	}
}

func (s *slowDeque) pop() iter.Seq2[int, int] {
	return func(answer func(int, int) bool) {
		b := s.bottom - 1
		s.bottom = b
		answer(api.DGoes, 0)
		t := s.top
		if t > b {
			s.bottom = t
			answer(api.DEmpty, 0)
			return
		}
		answer(api.DGoes, 0)
		v := s.at[b]
		if t < b {
			answer(api.DItem, v)
			return
		}
		answer(api.DGoes, 0)
		won := s.top == t
		if won {
			s.top = t + 1
		}
		answer(api.DGoes, 0)
		s.bottom = t + 1
		if won {
			answer(api.DItem, v)
		} else {
			answer(api.DEmpty, 0)
		}
	}
}

func (s *slowDeque) steal() iter.Seq2[int, int] {
	return func(answer func(int, int) bool) {
		t := s.top
		answer(api.DGoes, 0)
		if s.bottom-t < 1 {
			answer(api.DEmpty, 0)
			return
		}
		answer(api.DGoes, 0)
		v := s.at[t]
		answer(api.DGoes, 0)
		if s.top != t {
			answer(api.DLost, 0)
			return
		}
		s.top = t + 1
		answer(api.DItem, v)
	}
}

// both goes the same steps with a row and with a slow one, and keeps count of what was pushed and taken.
type both struct {
	t     *testing.T
	deque *deque.Deque
	slow  *slowDeque
	next  int         // the next item: each is pushed once
	open  int         // what the push that goes on pushes
	there map[int]int // of each item that was pushed how often it may be taken still
}

func newBoth(t *testing.T) *both {
	return &both{t: t, deque: deque.New(), slow: newSlow(), next: 1, there: map[int]int{}}
}

func (b *both) begin(who, call int) {
	b.t.Helper()
	begin(b.t, b.deque, who, call, b.next)
	b.slow.begin(who, call, b.next)
	if call == api.DPush {
		b.open = b.next
		b.next++
	}
}

func (b *both) step(who int) {
	b.t.Helper()
	wantAnswer, wantValue := b.slow.step(who)
	answer, value := b.deque.Step(who)
	if answer != wantAnswer || value != wantValue {
		b.t.Fatalf("P1501: Step(%d): %d, %d, not %d, %d", who, answer, value, wantAnswer, wantValue)
	}
	if b.deque.Busy(who) != (b.slow.calls[who] != nil) {
		b.t.Fatalf("P1501: Busy(%d): %v", who, b.deque.Busy(who))
	}
	wantItems(b.t, "P1501", b.deque, b.slow.items()...)
	b.count(answer, value)
}

func (b *both) count(answer, value int) {
	b.t.Helper()
	switch answer {
	case api.DDone:
		b.there[b.open]++
	case api.DItem:
		if b.there[value] != 1 {
			b.t.Fatalf("P1502: %d is taken, which stands there %d times", value, b.there[value])
		}
		delete(b.there, value)
	}
}

// finish does what goes on to its end, and looks whether nothing is lost.
func (b *both) finish() {
	b.t.Helper()
	for who := range api.MaxNodes {
		for b.deque.Busy(who) {
			b.step(who)
		}
	}
	left := b.deque.Items()
	if len(left) != len(b.there) || !slices.IsSorted(left) {
		b.t.Fatalf("P1502: %v of %d that are left", left, len(b.there))
	}
	for _, v := range left {
		if b.there[v] != 1 {
			b.t.Fatalf("P1502: %d is left, which stands there %d times", v, b.there[v])
		}
	}
}

func TestP1501AsSlow(t *testing.T) {
	r := rand.New(rand.NewSource(15))
	for range 600 {
		b := newBoth(t)
		whos := 1 + r.Intn(api.MaxNodes)
		pushes := 1 + r.Intn(9) // of 10 calls of the owner
		for range 100 + r.Intn(500) {
			who := r.Intn(whos)
			if r.Intn(3) == 0 {
				who = 0
			}
			switch {
			case b.deque.Busy(who):
				b.step(who)
			case who > 0:
				b.begin(who, api.DSteal)
			case r.Intn(10) < pushes:
				b.begin(0, api.DPush)
			default:
				b.begin(0, api.DPop)
			}
		}
		b.finish()
	}
}

func FuzzP1501(f *testing.F) {
	f.Add([]byte("\x00\x00\x00\x00\x00\x01\x02\x01\x02\x10\x01\x02\x10\x10\x10\x01\x02\x10"))
	f.Add([]byte("0000000000000000000000000000000123012301230123"))
	f.Fuzz(func(t *testing.T, script []byte) {
		b := newBoth(t)
		for _, x := range script {
			who := int(x) % 4
			switch {
			case b.deque.Busy(who):
				b.step(who)
			case who > 0:
				b.begin(who, api.DSteal)
			case x < 16:
				b.begin(0, api.DPush)
			default:
				b.begin(0, api.DPop)
			}
		}
		b.finish()
	})
}
