package deque_test

import (
	"slices"
	"testing"

	"gleaner/api"
	"gleaner/deque"
)

// orders tells one order after the other in which several go on: at each point it chooses one of those that can.
type orders struct {
	chosen, among []int
	at            int
}

// choose answers a number below n, by the order that is being told.
func (o *orders) choose(n int) int {
	if o.at == len(o.chosen) {
		o.chosen, o.among = append(o.chosen, 0), append(o.among, n)
	}
	o.at++
	return o.chosen[o.at-1]
}

// next goes on to the next order; false: there is none.
func (o *orders) next() bool {
	o.at = 0
	for k := len(o.chosen) - 1; k >= 0; k-- {
		if o.chosen[k]++; o.chosen[k] < o.among[k] {
			o.chosen, o.among = o.chosen[:k+1], o.among[:k+1]
			return true
		}
	}
	return false
}

// scene is a row of so many items, 1, 2, .., and the calls of each who, one behind the other.
type scene struct {
	items int
	calls [][]int
}

// play plays the scene in one order, and answers what was pushed, what was taken, and what is left.
func (s scene) play(o *orders) (pushed, taken, left []int) {
	d := deque.New()
	for k := range s.items {
		d.Begin(0, api.DPush, k+1)
		for d.Busy(0) {
			d.Step(0)
		}
		pushed = append(pushed, k+1)
	}
	done := make([]int, len(s.calls))
	for {
		var can []int
		for who, l := range s.calls {
			if d.Busy(who) || done[who] < len(l) {
				can = append(can, who)
			}
		}
		if len(can) == 0 {
			return pushed, taken, d.Items()
		}
		who := can[o.choose(len(can))]
		if !d.Busy(who) { // a call begins with its first step: ahead of that nothing tells it
			d.Begin(who, s.calls[who][done[who]], s.items+1+done[who])
			done[who]++
		}
		switch a, v := d.Step(who); a {
		case api.DDone:
			pushed = append(pushed, s.items+done[who])
		case api.DItem:
			taken = append(taken, v)
		}
	}
}

// wantInEachOrder looks whether in each order each item is taken once, or left.
func wantInEachOrder(t *testing.T, s scene) {
	t.Helper()
	o := &orders{}
	for {
		pushed, taken, left := s.play(o)
		all := append(taken, left...)
		slices.Sort(all)
		if !slices.Equal(all, pushed) {
			t.Fatalf("P1502: %+v, in the order %v: pushed %v, taken or left %v", s, o.chosen, pushed, all)
		}
		if !slices.IsSorted(left) {
			t.Fatalf("P1502: %+v, in the order %v: left %v", s, o.chosen, left)
		}
		if !o.next() {
			return
		}
	}
}

func TestP1502OwnerAndTwoThieves(t *testing.T) {
	for items := range 4 {
		for _, call := range []int{api.DPush, api.DPop} {
			wantInEachOrder(t, scene{items, [][]int{{call}, {api.DSteal}, {api.DSteal}}})
		}
	}
}

func TestP1502OwnerTwiceAndThiefTwice(t *testing.T) {
	for items := range 4 {
		for _, first := range []int{api.DPush, api.DPop} {
			for _, second := range []int{api.DPush, api.DPop} {
				wantInEachOrder(t, scene{items, [][]int{{first, second}, {api.DSteal, api.DSteal}}})
			}
		}
	}
}

func TestP1502OwnerTwiceAndTwoThieves(t *testing.T) {
	for items := range 3 {
		wantInEachOrder(t, scene{items, [][]int{{api.DPush, api.DPop}, {api.DSteal}, {api.DSteal}}})
		wantInEachOrder(t, scene{items, [][]int{{api.DPop, api.DPop}, {api.DSteal}, {api.DSteal}}})
	}
}

func TestP1502ThreeThieves(t *testing.T) {
	for items := range 3 {
		wantInEachOrder(t, scene{items, [][]int{{}, {api.DSteal}, {api.DSteal}, {api.DSteal}}})
	}
}
