package net_test

import (
	"bytes"
	"fmt"
	"math"
	"math/rand"
	"slices"
	"sync"
	"testing"

	"gleaner/api"
	"gleaner/net"
)

func TestP1201Example(t *testing.T) {
	n := net.New()
	if put := n.Send(parcel(1, 2, 3), parcel(4, 5, 6)); put != 2 {
		t.Errorf("P1201: Send of two: %d", put)
	}
	if p, ok := n.Deliver(1); !ok || !same(p, parcel(4, 5, 6)) {
		t.Errorf("P1201: Deliver(1): %v %v", p, ok)
	}
	onTheWay(t, "P1201", n, parcel(1, 2, 3))
}

func TestP1201NothingOnTheWay(t *testing.T) {
	n := net.New()
	for _, k := range append(wrongPlaces(0), 0) {
		if p, ok := n.Deliver(k); ok || !same(p, api.Parcel{}) || n.Drop(k) || n.Dup(k) || n.Flip(k, 0) {
			t.Errorf("P1201: there is a parcel %d", k)
		}
	}
	if n.Gone() != 0 || n.Gone(0) != 0 || n.Send() != 0 {
		t.Error("P1201: there is something")
	}
	onTheWay(t, "P1201", n)
}

func TestP1201SendPutsLast(t *testing.T) {
	n := net.New()
	l := append(row(9), parcel(math.MinInt, math.MaxInt), parcel(3, 3, make([]byte, 5000)...), parcel(3, 3), parcel(3, 3))
	at := 0
	for many := range 5 {
		if put := n.Send(l[at : at+many]...); put != many {
			t.Errorf("P1201: Send of %d: %d", many, put)
		}
		at += many
		onTheWay(t, "P1201: Send", n, l[:at]...)
	}
}

func TestP1201SendBeyondTheRoom(t *testing.T) {
	l := row(room + 5)
	for _, x := range []struct{ first, then, put int }{
		{0, room - 1, room - 1}, {0, room, room}, {0, room + 1, room}, {0, room + 5, room},
		{1, room - 1, room - 1}, {1, room, room - 1}, {room - 1, 1, 1}, {room - 1, 2, 1}, {room - 1, 6, 1}, {room, 0, 0}, {room, 1, 0}, {room, 5, 0},
	} {
		n := net.New()
		if put := n.Send(l[:x.first]...); put != x.first {
			t.Errorf("P1201: Send of %d: %d", x.first, put)
		}
		if put := n.Send(l[x.first : x.first+x.then]...); put != x.put {
			t.Errorf("P1201: Send of %d behind %d: %d, not %d", x.then, x.first, put, x.put)
		}
		onTheWay(t, "P1201: Send", n, l[:x.first+x.put]...)
	}
}

// Whatever takes a parcel off a full way makes room for just as many.
func TestP1201RoomAgain(t *testing.T) {
	l, late := row(room), parcel(-1, -1, 1)
	for name, x := range map[string]struct {
		take  func(n *net.Net)
		taken int
	}{
		"Deliver": {func(n *net.Net) { n.Deliver(room / 2) }, 1},
		"Drop":    {func(n *net.Net) { n.Drop(room - 1) }, 1},
		"Gone":    {func(n *net.Net) { n.Gone(7, 5000, -9) }, 3},
		"wrong":   {func(n *net.Net) { n.Deliver(room); n.Drop(-1); n.Gone(room) }, 0},
		"Flip":    {func(n *net.Net) { n.Flip(3, 3) }, 0},
	} {
		n := sent(l...)
		x.take(n)
		if left := len(n.Way()); left != room-x.taken {
			t.Errorf("P1201: %s: %d are left", name, left)
		}
		if put := n.Send(late, late, late, late); put != x.taken {
			t.Errorf("P1201: Send behind %s: %d", name, put)
		}
	}
}

func TestP1201DeliverEach(t *testing.T) {
	for many := 1; many < 8; many++ {
		for k := range many {
			l, n := row(many), sent(row(many)...)
			if p, ok := n.Deliver(k); !ok || !same(p, l[k]) {
				t.Errorf("P1201: Deliver(%d) of %d: %v %v", k, many, p, ok)
			}
			onTheWay(t, "P1201: Deliver", n, slices.Delete(l, k, k+1)...)
		}
	}
}

func TestP1201DropEach(t *testing.T) {
	for many := 1; many < 8; many++ {
		for k := range many {
			l, n := row(many), sent(row(many)...)
			if !n.Drop(k) {
				t.Errorf("P1201: Drop(%d) of %d", k, many)
			}
			onTheWay(t, "P1201: Drop", n, slices.Delete(l, k, k+1)...)
		}
	}
}

func TestP1201DupEach(t *testing.T) {
	for many := 1; many < 8; many++ {
		for k := range many {
			l, n := row(many), sent(row(many)...)
			if !n.Dup(k) {
				t.Errorf("P1201: Dup(%d) of %d", k, many)
			}
			onTheWay(t, "P1201: Dup", n, append(l, l[k])...)
			if !n.Dup(many) { // a double may be doubled
				t.Errorf("P1201: Dup of a double")
			}
			onTheWay(t, "P1201: Dup", n, append(l, l[k], l[k])...)
		}
	}
}

func TestP1201DupBeyondTheRoom(t *testing.T) {
	l := row(room - 1)
	n := sent(l...)
	if !n.Dup(2) {
		t.Error("P1201: Dup of 9,999")
	}
	full := append(slices.Clone(l), l[2])
	for _, k := range []int{0, 2, room - 1} {
		if n.Dup(k) {
			t.Errorf("P1201: Dup(%d) of 10,000", k)
		}
	}
	onTheWay(t, "P1201: Dup", n, full...)
	n.Drop(0)
	if !n.Dup(room-2) || n.Dup(0) {
		t.Error("P1201: Dup of 9,999 again")
	}
	onTheWay(t, "P1201: Dup", n, append(full[1:], l[2])...)
}

func TestP1201WrongPlaces(t *testing.T) {
	for _, many := range []int{1, 2, 5} {
		l, n := row(many), sent(row(many)...)
		for _, k := range wrongPlaces(many) {
			if p, ok := n.Deliver(k); ok || !same(p, api.Parcel{}) {
				t.Errorf("P1201: Deliver(%d) of %d: %v %v", k, many, p, ok)
			}
			if n.Drop(k) || n.Dup(k) || n.Flip(k, 0) || n.Flip(k, -1) {
				t.Errorf("P1201: there is a parcel %d of %d", k, many)
			}
			onTheWay(t, "P1201: a wrong place", n, l...)
		}
	}
}

func TestP1201FlipEachBit(t *testing.T) {
	l := []api.Parcel{parcel(1, 2, 0, 255, 0x5A), parcel(3, 4), parcel(5, 6, 1), parcel(7, 8, make([]byte, 600)...)}
	for k := range l {
		for bit := range 8 * len(l[k].Bytes) {
			n, want := sent(l...), copies(l)
			want[k].Bytes[bit/8] ^= 1 << (bit % 8)
			if !n.Flip(k, bit) {
				t.Fatalf("P1201: Flip(%d, %d)", k, bit)
			}
			onTheWay(t, "P1201: Flip", n, want...)
			if p, ok := n.Deliver(k); !ok || !same(p, want[k]) {
				t.Fatalf("P1201: Deliver behind Flip(%d, %d): %v %v", k, bit, p, ok)
			}
		}
	}
}

func TestP1201FlipTwice(t *testing.T) {
	n := sent(row(3)...)
	for _, x := range []struct {
		bit  int
		want byte
	}{{0, 0}, {7, 128}, {1, 130}, {7, 2}, {1, 0}, {0, 1}} {
		if !n.Flip(1, x.bit) || n.Way()[1].Bytes[0] != x.want {
			t.Errorf("P1201: bit %d turned: %v", x.bit, n.Way())
		}
	}
	onTheWay(t, "P1201: all turned back", n, row(3)...)
}

func TestP1201FlipOfNoBit(t *testing.T) {
	l := []api.Parcel{parcel(1, 2, 9, 9, 9), parcel(3, 4), parcel(5, 6, 1)}
	n := sent(l...)
	for k := range l {
		bits := 8 * len(l[k].Bytes)
		for _, bit := range append(wrongPlaces(bits), -7, -8, -9, bits+7, bits+8, 1<<61, -1<<61) {
			if bit >= 0 && bit < bits {
				continue
			}
			if n.Flip(k, bit) {
				t.Errorf("P1201: Flip(%d, %d)", k, bit)
			}
			onTheWay(t, "P1201: Flip of no bit", n, l...)
		}
	}
}

// A double is a parcel of its own: what is done to it, or to that of which it is one, is not done to the other.
func TestP1201FlipOfDoubles(t *testing.T) {
	for k := range 3 {
		n := sent(parcel(1, 2, 0, 0))
		n.Dup(0)
		n.Dup(1)
		want := []api.Parcel{parcel(1, 2, 0, 0), parcel(1, 2, 0, 0), parcel(1, 2, 0, 0)}
		want[k].Bytes[1] = 16
		if !n.Flip(k, 12) {
			t.Errorf("P1201: Flip(%d, 12)", k)
		}
		onTheWay(t, "P1201: Flip of a double", n, want...)
		if !n.Dup(k) { // of what it is now
			t.Errorf("P1201: Dup(%d)", k)
		}
		onTheWay(t, "P1201: Dup of a turned one", n, append(want, want[k])...)
	}
}

func TestP1201Gone(t *testing.T) {
	l := []api.Parcel{parcel(0, 1, 1), parcel(1, 2, 2), parcel(2, 2), parcel(-5, 9, 3), parcel(1, 0, 4), parcel(math.MinInt, math.MaxInt), parcel(3, 0, 5), parcel(0, 1, 1)}
	for _, x := range []struct {
		nodes []int
		left  []int
	}{
		{nil, []int{0, 1, 2, 3, 4, 5, 6, 7}},
		{[]int{}, []int{0, 1, 2, 3, 4, 5, 6, 7}},
		{[]int{0}, []int{1, 2, 3, 5}},
		{[]int{1}, []int{2, 3, 5, 6}},
		{[]int{2}, []int{0, 3, 4, 5, 6, 7}},
		{[]int{3}, []int{0, 1, 2, 3, 4, 5, 7}},
		{[]int{2, 2, 2}, []int{0, 3, 4, 5, 6, 7}},
		{[]int{1, 0}, []int{2, 3, 5}},
		{[]int{3, 77, 9}, []int{0, 1, 2, 4, 5, 7}},
		{[]int{-5}, []int{0, 1, 2, 4, 5, 6, 7}},
		{[]int{5, -1, 16, 77, -9}, []int{0, 1, 2, 3, 4, 5, 6, 7}},
		{[]int{math.MinInt}, []int{0, 1, 2, 3, 4, 6, 7}},
		{[]int{math.MaxInt, math.MaxInt - 1}, []int{0, 1, 2, 3, 4, 6, 7}},
		{[]int{0, 1, 2, 9, math.MaxInt}, nil},
	} {
		n := sent(l...)
		if lost := n.Gone(x.nodes...); lost != len(l)-len(x.left) {
			t.Errorf("P1201: Gone(%v): %d", x.nodes, lost)
		}
		var want []api.Parcel
		for _, k := range x.left {
			want = append(want, l[k])
		}
		onTheWay(t, fmt.Sprint("P1201: Gone", x.nodes), n, want...)
		if lost := n.Gone(x.nodes...); lost != 0 {
			t.Errorf("P1201: Gone(%v) again: %d", x.nodes, lost)
		}
	}
}

// What is sent later is lost no more: nodes are gone at that moment alone.
func TestP1201GoneIsOver(t *testing.T) {
	n := sent(row(3)...)
	n.Gone(0, 1, 2)
	if put := n.Send(row(3)...); put != 3 {
		t.Errorf("P1201: Send behind Gone: %d", put)
	}
	onTheWay(t, "P1201: Send behind Gone", n, row(3)...)
}

func TestP1201GoneOfManyNodes(t *testing.T) {
	nodes := make([]int, 300000)
	for k := range nodes {
		nodes[k] = -2 * k
	}
	l := row(room)
	n := sent(l...)
	if lost := n.Gone(nodes...); lost != room/2 { // row's are From k To -k
		t.Errorf("P1201: Gone of many: %d", lost)
	}
	if p, ok := n.Deliver(1); !ok || !same(p, l[3]) {
		t.Errorf("P1201: behind Gone of many: %v %v", p, ok)
	}
}

func TestP1201WayLeavesAll(t *testing.T) {
	n := sent(row(5)...)
	for range 3 {
		onTheWay(t, "P1201: Way", n, row(5)...)
	}
}

func TestP1201AllInTurn(t *testing.T) {
	l := row(room)
	for name, at := range map[string]func(left int) int{
		"from the front": func(left int) int { return 0 },
		"from the end":   func(left int) int { return left - 1 },
		"from within":    func(left int) int { return left / 3 },
	} {
		n, want := sent(l...), slices.Clone(l)
		for left := room; left > 0; left-- {
			k := at(left)
			if p, ok := n.Deliver(k); !ok || !same(p, want[k]) {
				t.Fatalf("P1201: Deliver %s, %d left: %v %v", name, left, p, ok)
			}
			want = slices.Delete(want, k, k+1)
		}
		onTheWay(t, "P1201: all delivered", n)
	}
}

// A row that is taken from ahead and put to behind, for long.
func TestP1201AsARow(t *testing.T) {
	n := net.New()
	for k := range 50000 {
		n.Send(parcel(k, k+1, byte(k)))
		if k < 100 {
			continue
		}
		if p, ok := n.Deliver(0); !ok || !same(p, parcel(k-100, k-99, byte(k-100))) {
			t.Fatalf("P1201: number %d: %v %v", k-100, p, ok)
		}
	}
	if left := len(n.Way()); left != 100 {
		t.Errorf("P1201: %d are left", left)
	}
}

// The doubles of a long parcel are no more than what was given, until they are turned or answered.
func TestP1201DupOfALongParcel(t *testing.T) {
	long := parcel(1, 2, bytes.Repeat([]byte{0xA5}, 1<<21)...)
	n := sent(long)
	for range room - 1 {
		if !n.Dup(0) {
			t.Fatal("P1201: Dup")
		}
	}
	if !n.Flip(3, 8<<21-1) || n.Flip(3, 8<<21) {
		t.Error("P1201: Flip of the last bit")
	}
	if p, ok := n.Deliver(room - 1); !ok || !same(p, long) {
		t.Error("P1201: the last double")
	}
	p, ok := n.Deliver(3)
	if !ok || p.Bytes[1<<21-1] != 0x25 {
		t.Error("P1201: the turned one")
	}
	if lost := n.Gone(2); lost != room-2 {
		t.Errorf("P1201: Gone: %d", lost)
	}
}

func TestP1201RandomSteps(t *testing.T) {
	r := rand.New(rand.NewSource(1201))
	did, not := map[int]int{}, map[int]int{}
	for range 300 {
		b := both{t, net.New(), &slowNet{}}
		for range 200 {
			call, is := b.step(r)
			if is {
				did[call]++
			} else {
				not[call]++
			}
			onTheWay(t, "P1201", b.fast, b.slow.way...)
		}
	}
	for _, call := range []int{0, 2, 3, 4, 5, 6} {
		if did[call] < 500 || not[call] < 500 {
			t.Errorf("the steps that were made are of too few kinds: %v %v", did, not)
		}
	}
}

func TestP1201RandomStepsNearTheRoom(t *testing.T) {
	r := rand.New(rand.NewSource(12012))
	b := both{t, net.New(), &slowNet{}}
	full := 0
	for range 600 {
		for len(b.slow.way) < room-3 {
			p := parcel(100+len(b.slow.way), 50, 1)
			b.agree("Send", b.fast.Send(p), b.slow.send(p))
		}
		b.step(r)
		if len(b.slow.way) == room {
			full++
		}
	}
	onTheWay(t, "P1201", b.fast, b.slow.way...)
	if full < 50 {
		t.Errorf("the way was full only %d times", full)
	}
}

// filled writes to all the memory that b has.
func filled(b []byte) {
	for k := range b[:cap(b)] {
		b[:cap(b)][k] = 0xEE
	}
}

// spoiled writes to all the memory that l has.
func spoiled(l []api.Parcel) {
	for k, p := range l {
		filled(p.Bytes)
		l[k].From, l[k].To = 91, 92
	}
	for k := range l[:cap(l)] {
		l[:cap(l)][k] = parcel(93, 94, 95)
	}
}

func TestP1202HandedInIsNotKept(t *testing.T) {
	l := append(row(5), parcel(6, 7), api.Parcel{From: 8, To: 9, Bytes: make([]byte, 0, 9)})
	want := copies(l)
	n := net.New()
	n.Send(l...)
	n.Send(l[2])
	want = append(want, copies(want[2:3])...)
	spoiled(l)
	onTheWay(t, "P1202: what was handed in is kept", n, want...)
}

func TestP1202HandedInStays(t *testing.T) {
	space := make([]byte, 100)
	l := make([]api.Parcel, 0, 40)
	for k := range 20 {
		l = append(l, parcel(k, 1, space[5*k:5*k+4]...)) // each with spare room that the next ones are in
	}
	nodes := append(make([]int, 0, 9), 4, 2, 4, 3)
	was, wereNodes := copies(l[:cap(l)]), slices.Clone(nodes[:cap(nodes)])
	n := net.New()
	n.Send(l...)
	n.Send(l[:3]...)
	for k := range 20 {
		n.Flip(k, k)
		n.Dup(k)
		n.Flip(23+k, 2*k)
	}
	n.Gone(nodes...)
	n.Drop(3)
	for range 30 {
		p, _ := n.Deliver(0)
		filled(p.Bytes)
	}
	spoiled(n.Way())
	if !slices.EqualFunc(l[:cap(l)], was, same) || !bytes.Equal(space, make([]byte, 100)) {
		t.Errorf("P1202: what was sent is %v, was %v", l, was)
	}
	if !slices.Equal(nodes[:cap(nodes)], wereNodes) {
		t.Errorf("P1202: the nodes are %v, were %v", nodes, wereNodes)
	}
}

func TestP1202SendOfTheFullLeavesIt(t *testing.T) {
	l := row(room + 5)
	was := copies(l)
	n := sent(row(7)...)
	n.Send(l...)
	n.Gone(3)
	n.Flip(20, 4)
	if !slices.EqualFunc(l, was, same) {
		t.Error("P1202: what was sent has changed")
	}
}

func TestP1202WayIsNewMemory(t *testing.T) {
	n := sent(row(6)...)
	n.Dup(3)
	want := append(row(6), row(6)[3])
	a, b := n.Way(), n.Way()
	spoiled(a)
	if !slices.EqualFunc(b, want, same) {
		t.Errorf("P1202: two answers share memory: %v", b)
	}
	onTheWay(t, "P1202: what is on the way turns with an answer", n, want...)
	n.Flip(0, 0)
	n.Deliver(1)
	n.Gone(4)
	if !slices.EqualFunc(b, want, same) {
		t.Errorf("P1202: an answer turns with what is on the way: %v", b)
	}
}

// No two lists of one answer share memory: not those of doubles, not those that were sent as one, not their spare room.
func TestP1202ListsOfOneAnswer(t *testing.T) {
	one := []byte{1, 2, 3}
	n := net.New()
	n.Send(parcel(1, 2, one...), parcel(1, 2, one...), parcel(1, 2, one[:2]...))
	n.Dup(0)
	n.Dup(3)
	want := n.Way()
	for k := range want {
		l := n.Way()
		filled(l[k].Bytes)
		l[k] = want[k]
		if !slices.EqualFunc(l, want, same) {
			t.Errorf("P1202: parcel %d shares memory with others: %v", k, l)
		}
	}
}

func TestP1202DeliverIsNewMemory(t *testing.T) {
	in := parcel(1, 2, 1, 2, 3)
	for _, order := range [][]int{{0, 0, 0}, {2, 1, 0}, {1, 1, 0}, {1, 0, 0}} {
		n := net.New()
		n.Send(in)
		n.Dup(0)
		n.Dup(0)
		for _, k := range order {
			p, ok := n.Deliver(k)
			if !ok || !same(p, parcel(1, 2, 1, 2, 3)) {
				t.Errorf("P1202: %v: Deliver(%d) turns with something else: %v", order, k, p)
			}
			filled(p.Bytes)
		}
		if !same(in, parcel(1, 2, 1, 2, 3)) {
			t.Errorf("P1202: what was handed in turns with an answer: %v", in)
		}
	}
}

func TestP1202AnswersStay(t *testing.T) {
	n := sent(row(4)...)
	n.Dup(2)
	p, _ := n.Deliver(2)
	n.Flip(3, 0)
	n.Send(row(100)...)
	for range 50 {
		n.Deliver(0)
	}
	n.Gone(1, 2, 3)
	if !same(p, row(4)[2]) {
		t.Errorf("P1202: an answer turns with what is on the way: %v", p)
	}
}

func TestP1202TwoNets(t *testing.T) {
	l := row(5)
	a, b, c := net.New(), net.New(), net.New()
	a.Send(l...)
	b.Send(l...)
	a.Flip(0, 0)
	a.Dup(1)
	a.Drop(2)
	a.Deliver(0)
	onTheWay(t, "P1202: another net", b, row(5)...)
	onTheWay(t, "P1202: another net", c)
	if lost := b.Gone(1, 3); lost != 2 {
		t.Errorf("P1202: Gone: %d", lost)
	}
	onTheWay(t, "P1202: another net", a, row(5)[1], row(5)[3], row(5)[4], row(5)[1])
	a.Send(row(room)...)
	if put := c.Send(row(room)...); put != room {
		t.Errorf("P1202: another net's room: %d", put)
	}
	d := net.New()
	d.Send(a.Way()...) // what one answers may be sent by another
	want := d.Way()
	a.Flip(0, 0)
	a.Gone(3)
	onTheWay(t, "P1202: another net", d, want...)
}

func TestP1202EachNetByItself(t *testing.T) {
	l := row(20)
	var all sync.WaitGroup
	for seed := range 8 {
		all.Go(func() {
			a, b := net.New(), net.New()
			a.Send(l...)
			b.Send(l...)
			r, q := rand.New(rand.NewSource(int64(seed))), rand.New(rand.NewSource(int64(seed)))
			for range 500 {
				if x, y := tell(r, a), tell(q, b); x != y {
					t.Errorf("P1202: two nets that were told the same: %s, %s", x, y)
				}
			}
		})
	}
	all.Wait()
	if !slices.EqualFunc(l, row(20), same) {
		t.Error("P1202: what was handed in has changed")
	}
}

// tell does something to n, and tells what came of it.
func tell(r *rand.Rand, n *net.Net) string {
	k := r.Intn(25)
	switch r.Intn(5) {
	case 0:
		return fmt.Sprint(n.Send(someParcel(r), someParcel(r)))
	case 1:
		return fmt.Sprint(n.Deliver(k))
	case 2:
		return fmt.Sprint(n.Dup(k))
	case 3:
		return fmt.Sprint(n.Flip(k, r.Intn(30)))
	}
	return fmt.Sprint(n.Gone(k), n.Way())
}

func FuzzP1201(f *testing.F) {
	f.Add(int64(1), 50, 3, 9)
	f.Add(int64(2), 9, -1, -8)
	f.Add(int64(3), 100, math.MaxInt, math.MinInt)
	f.Fuzz(func(t *testing.T, seed int64, steps, k, bit int) {
		r := rand.New(rand.NewSource(seed))
		b := both{t, net.New(), &slowNet{}}
		for range min(steps, 300) {
			b.step(r)
		}
		b.agree("Flip", b.fast.Flip(k, bit), b.slow.flip(k, bit))
		b.agree("Dup", b.fast.Dup(k), b.slow.dup(k))
		b.agree("Gone", b.fast.Gone(bit, k), b.slow.gone(bit, k))
		onTheWay(t, "P1201", b.fast, b.slow.way...)
		got, ok := b.fast.Deliver(k)
		if want, is := b.slow.deliver(k); ok != is || !same(got, want) {
			t.Fatalf("P1201: Deliver(%d): %v %v, not %v %v", k, got, ok, want, is)
		}
		onTheWay(t, "P1201", b.fast, b.slow.way...)
	})
}
