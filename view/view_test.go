package view_test

import (
	"fmt"
	"math"
	"math/rand"
	"slices"
	"sync"
	"testing"

	"gleaner/api"
	"gleaner/view"
)

// most is the greatest epoch, and the greatest life.
const most = 1<<31 - 1

// outside are numbers that are no epochs, and no lives.
func outside() []int {
	return []int{math.MinInt, math.MinInt + 1, -1 << 32, -1<<32 + 1, math.MinInt32, -most, -2, -1, 0, most + 1, most + 2, 1 << 32, 1<<32 + 1, 1 << 62, math.MaxInt - 1, math.MaxInt}
}

// strange are numbers of which there are no nodes.
func strange() []int {
	return []int{math.MinInt, math.MinInt + 1, -1 << 32, -16, -2, -1, 16, 17, 32, 256, 1 << 32, 1<<32 + 1, math.MaxInt - 1, math.MaxInt}
}

// member makes a member of a node and its life.
func member(node, life int) api.Member { return api.Member{Node: node, Life: life} }

// of makes a view of these members.
func of(epoch int, l ...api.Member) api.View { return api.View{Epoch: epoch, Members: l} }

// plain makes a view of these nodes, each in the life that is one more than ten times its number.
func plain(epoch int, nodes ...int) api.View {
	v := api.View{Epoch: epoch}
	for _, node := range nodes {
		v.Members = append(v.Members, member(node, 10*node+1))
	}
	return v
}

func same(a, b api.View) bool { return a.Epoch == b.Epoch && slices.Equal(a.Members, b.Members) }

// may asks whether there can be such a view.
func may(t *testing.T, v api.View, want bool) {
	t.Helper()
	if got := view.May(v); got != want {
		t.Errorf("P1801: May(%v): %v", v, got)
	}
}

// first asks for what First answers.
func first(t *testing.T, nodes int, want api.View, x api.Errno) {
	t.Helper()
	if got, e := view.First(nodes); !same(got, want) || e != x {
		t.Errorf("P1801: First(%d): %v %d, not %v %d", nodes, got, e, want, x)
	}
}

// without asks for what Without answers.
func without(t *testing.T, v api.View, want api.View, x api.Errno, nodes ...int) {
	t.Helper()
	if got, e := view.Without(v, nodes...); !same(got, want) || e != x {
		t.Errorf("P1801: Without(%v, %v): %v %d, not %v %d", v, nodes, got, e, want, x)
	}
}

// with asks for what With answers.
func with(t *testing.T, v api.View, node, life int, want api.View, x api.Errno) {
	t.Helper()
	if got, e := view.With(v, node, life); !same(got, want) || e != x {
		t.Errorf("P1801: With(%v, %d, %d): %v %d, not %v %d", v, node, life, got, e, want, x)
	}
}

// has asks whether v has that node in that life.
func has(t *testing.T, v api.View, node, life int, want bool) {
	t.Helper()
	if got := view.Has(v, node, life); got != want {
		t.Errorf("P1802: Has(%v, %d, %d): %v", v, node, life, got)
	}
}

// fenced asks whether what comes so is fenced by v.
func fenced(t *testing.T, v api.View, epoch, node, life int, want bool) {
	t.Helper()
	if got := view.Fenced(v, epoch, node, life); got != want {
		t.Errorf("P1802: Fenced(%v, %d, %d, %d): %v", v, epoch, node, life, got)
	}
}

// newest asks which of these is the newest.
func newest(t *testing.T, want api.View, l ...api.View) {
	t.Helper()
	if got := view.Newest(l...); !same(got, want) {
		t.Errorf("P1802: Newest(%v): %v, not %v", l, got, want)
	}
}

func TestP1801Example(t *testing.T) {
	v, _ := view.First(3)
	without(t, v, of(2, member(0, 1), member(2, 1)), api.OK, 1)
}

// Each kind of view that there can be, by what bounds it.
func TestP1801MayBe(t *testing.T) {
	for _, v := range []api.View{
		plain(1, 0), plain(2, 0), plain(most-1, 0), plain(most, 0),
		plain(7, 0, 1), plain(7, 0, 15), plain(7, 0, 14, 15), plain(7, 0, 3, 9),
		plain(7, 0, 1, 2, 3, 4, 5, 6, 7, 8, 9, 10, 11, 12, 13, 14, 15),
		of(7, member(0, 1)), of(7, member(0, most-1)), of(7, member(0, most)),
		of(7, member(0, 5), member(1, 1), member(2, most)), of(7, member(0, 5), member(15, most)),
	} {
		may(t, v, true)
	}
}

func TestP1801MayEpoch(t *testing.T) {
	for _, epoch := range outside() {
		may(t, plain(epoch, 0), false)
		may(t, plain(epoch, 0, 1, 2), false)
	}
}

func TestP1801MayLife(t *testing.T) {
	for _, life := range outside() {
		for node := range api.MaxNodes {
			v := plain(7, 0, 1, 2, 3, 4, 5, 6, 7, 8, 9, 10, 11, 12, 13, 14, 15)
			v.Members[node].Life = life
			may(t, v, false)
		}
		may(t, of(7, member(0, life)), false)
	}
}

func TestP1801MayNodes(t *testing.T) {
	for _, node := range strange() {
		may(t, of(7, member(0, 1), member(node, 1)), false)
		may(t, of(7, member(node, 1), member(0, 1)), false)
		may(t, of(7, member(0, 1), member(1, 1), member(node, 1)), false)
		may(t, of(7, member(0, 1), member(node, 1), member(15, 1)), false)
		may(t, of(7, member(node, 1)), false)
	}
	for _, v := range []api.View{
		{}, {Epoch: 1}, {Epoch: 1, Members: []api.Member{}}, // node 0 is not there
		plain(7, 1), plain(7, 1, 2), plain(7, 15), plain(7, 1, 2, 3, 4, 5, 6, 7, 8, 9, 10, 11, 12, 13, 14, 15),
		plain(7, 0, 0), plain(7, 0, 1, 1), plain(7, 0, 1, 1, 2), plain(7, 0, 15, 15), // they don't rise
		plain(7, 1, 0), plain(7, 0, 2, 1), plain(7, 0, 1, 0), plain(7, 2, 0, 1), plain(7, 0, 1, 3, 2, 4),
		plain(7, 0, 1, 2, 3, 4, 5, 6, 7, 8, 9, 10, 11, 12, 13, 14, 15, 16),
		of(7, member(0, 1), member(0, 2)), of(7, member(0, 1), member(3, 2), member(3, 5)),
	} {
		may(t, v, false)
	}
	may(t, api.View{Epoch: 7, Members: make([]api.Member, 100000)}, false)
}

func TestP1801First(t *testing.T) {
	want := of(1)
	for nodes := 1; nodes <= api.MaxNodes; nodes++ {
		want.Members = append(want.Members, member(nodes-1, 1))
		first(t, nodes, want, api.OK)
		may(t, want, true)
	}
	for _, nodes := range append(strange(), 0, 18, 100000) {
		if nodes != api.MaxNodes {
			first(t, nodes, api.View{}, api.ErrArg)
		}
	}
}

func TestP1801Without(t *testing.T) {
	v := plain(4, 0, 1, 3, 7, 15)
	without(t, v, plain(5, 0, 3, 7, 15), api.OK, 1)
	without(t, v, plain(5, 0, 1, 3, 7), api.OK, 15)
	without(t, v, plain(5, 0, 1, 15), api.OK, 7, 3)
	without(t, v, plain(5, 0, 1, 15), api.OK, 3, 7)
	without(t, v, plain(5, 0), api.OK, 15, 1, 7, 3)
	without(t, v, plain(5, 0, 1, 7, 15), api.OK, 3, 3, 3) // each once
	without(t, v, plain(5, 0, 3, 7), api.OK, 1, 15, 1, 15, 1)
}

func TestP1801WithoutWrong(t *testing.T) {
	v := plain(4, 0, 1, 3, 15)
	without(t, v, api.View{}, api.ErrArg)
	for _, node := range append(strange(), 0, 2, 4, 14) {
		without(t, v, api.View{}, api.ErrArg, node)
		without(t, v, api.View{}, api.ErrArg, node, 1)
		without(t, v, api.View{}, api.ErrArg, 1, node)
		without(t, v, api.View{}, api.ErrArg, 3, 1, node, 15)
	}
	without(t, plain(4, 0), api.View{}, api.ErrArg, 0)
	without(t, plain(4, 0), api.View{}, api.ErrArg)
	without(t, plain(4, 0), api.View{}, api.ErrArg, 1)
}

// wrongViews are some that may not be, though node 1 is in each.
func wrongViews() []api.View {
	return []api.View{
		plain(0, 0, 1), plain(-1, 0, 1), plain(most+1, 0, 1), plain(math.MinInt, 0, 1), plain(math.MaxInt, 0, 1),
		plain(4, 1), plain(4, 1, 0), plain(4, 0, 1, 1), plain(4, 0, 1, 16), plain(4, -1, 0, 1),
		of(4, member(0, 0), member(1, 1)), of(4, member(0, 1), member(1, 0)), of(4, member(0, 1), member(1, most+1)), of(4, member(0, 1), member(1, 1), member(9, -1)),
	}
}

func TestP1801OfWrongViews(t *testing.T) {
	for _, v := range append(wrongViews(), api.View{}) {
		may(t, v, false)
		without(t, v, api.View{}, api.ErrArg, 1)
		without(t, v, api.View{}, api.ErrArg)
		with(t, v, 2, 1, api.View{}, api.ErrArg)
		with(t, v, 1, 1, api.View{}, api.ErrArg)
	}
}

// The last epoch is followed by none; what is wrong besides is told ahead of that.
func TestP1801NoEpochIsLeft(t *testing.T) {
	v, last := plain(most-1, 0, 1, 5), plain(most, 0, 1, 5)
	without(t, v, plain(most, 0, 5), api.OK, 1)
	without(t, last, api.View{}, api.ErrLimit, 1)
	without(t, last, api.View{}, api.ErrLimit, 5, 1, 5)
	for _, l := range [][]int{nil, {}, {0}, {2}, {1, 0}, {1, 5, 6}, {-1}, {16}} {
		without(t, last, api.View{}, api.ErrArg, l...)
	}
	with(t, v, 2, 21, plain(most, 0, 1, 2, 5), api.OK)
	with(t, last, 2, 21, api.View{}, api.ErrLimit)
	with(t, last, 15, most, api.View{}, api.ErrLimit)
	for _, m := range []api.Member{member(0, 1), member(1, 1), member(5, 99), member(-1, 1), member(16, 1), member(2, 0), member(2, most+1)} {
		with(t, last, m.Node, m.Life, api.View{}, api.ErrArg)
	}
}

func TestP1801With(t *testing.T) {
	v := plain(4, 0, 3, 7)
	with(t, v, 1, 11, plain(5, 0, 1, 3, 7), api.OK)
	with(t, v, 2, 21, plain(5, 0, 2, 3, 7), api.OK)
	with(t, v, 4, 41, plain(5, 0, 3, 4, 7), api.OK)
	with(t, v, 6, 61, plain(5, 0, 3, 6, 7), api.OK)
	with(t, v, 8, 81, plain(5, 0, 3, 7, 8), api.OK)
	with(t, v, 15, 151, plain(5, 0, 3, 7, 15), api.OK)
	with(t, plain(1, 0), 9, 91, plain(2, 0, 9), api.OK)
	for _, life := range []int{1, 2, 31, 32, 1 << 16, most - 1, most} { // whichever lives the others have
		with(t, v, 5, life, of(5, member(0, 1), member(3, 31), member(5, life), member(7, 71)), api.OK)
	}
}

func TestP1801WithWrong(t *testing.T) {
	v := plain(4, 0, 3, 7)
	for _, node := range append(strange(), 0, 3, 7) {
		for _, life := range []int{1, 2, 31, 71, 72, most} {
			with(t, v, node, life, api.View{}, api.ErrArg)
		}
	}
	for _, life := range outside() {
		for _, node := range []int{1, 4, 15, 0, 7, 16} {
			with(t, v, node, life, api.View{}, api.ErrArg)
		}
	}
	all, _ := view.First(api.MaxNodes)
	for node := -1; node <= api.MaxNodes; node++ { // it has no room
		with(t, all, node, 2, api.View{}, api.ErrArg)
	}
}

// A node that was put out may come in again, in any life: views keep none.
func TestP1801OutAndInAgain(t *testing.T) {
	v, _ := view.First(4)
	v, e := view.Without(v, 2)
	if e != api.OK {
		t.Fatalf("P1801: Without: %d", e)
	}
	with(t, v, 2, 1, of(3, member(0, 1), member(1, 1), member(2, 1), member(3, 1)), api.OK)
	with(t, v, 2, 2, of(3, member(0, 1), member(1, 1), member(2, 2), member(3, 1)), api.OK)
}

func TestP1802Has(t *testing.T) {
	v := of(4, member(0, 1), member(3, 5), member(15, most))
	for node := -2; node < 20; node++ {
		for _, life := range append(outside(), 1, 2, 3, 4, 5, 6, 15, most-1, most) {
			want := node == 0 && life == 1 || node == 3 && life == 5 || node == 15 && life == most
			has(t, v, node, life, want)
		}
	}
	for _, node := range append(strange(), 0, 1) {
		has(t, api.View{}, node, 1, false)
		has(t, api.View{}, node, 0, false)
		has(t, of(4), node, 0, false)
		has(t, v, node, 0, false)
		has(t, v, node, 5, false)
	}
}

// Who is a member of a view, though that may not be.
func TestP1802HasOfWrongViews(t *testing.T) {
	for _, v := range wrongViews() {
		for _, m := range v.Members {
			has(t, v, m.Node, m.Life, true)
			has(t, v, m.Node, m.Life+1000, false)
		}
		has(t, v, 7, 1, false)
	}
	v := of(-9, member(5, -7), member(99, 0), member(5, 8), member(math.MinInt, math.MaxInt))
	for _, m := range v.Members {
		has(t, v, m.Node, m.Life, true)
		fenced(t, v, -9, m.Node, m.Life, false)
		fenced(t, v, 9, m.Node, m.Life, true)
	}
	has(t, v, 5, 1, false)
	has(t, v, 99, 8, false)
}

func TestP1802Fenced(t *testing.T) {
	v := of(4, member(0, 1), member(3, 5), member(15, most))
	for _, epoch := range append(outside(), 1, 2, 3, 4, 5, 6, most) {
		for node := -1; node < 18; node++ {
			for _, life := range []int{math.MinInt, -1, 0, 1, 2, 4, 5, 6, most, math.MaxInt} {
				is := node == 0 && life == 1 || node == 3 && life == 5 || node == 15 && life == most
				fenced(t, v, epoch, node, life, epoch != 4 || !is)
			}
		}
	}
	fenced(t, api.View{}, 0, 0, 0, true)
	fenced(t, api.View{}, 0, 0, 1, true)
	fenced(t, api.View{}, 1, 0, 1, true)
}

// What was sent ahead of a view is not heard behind it, also of those that stay.
func TestP1802FencedBehind(t *testing.T) {
	v, _ := view.First(4)
	w, _ := view.Without(v, 2)
	x, _ := view.With(w, 2, 2)
	for node := range 4 {
		fenced(t, v, 1, node, 1, false)
		fenced(t, w, 1, node, 1, true)
		fenced(t, w, 2, node, 1, node == 2)
		fenced(t, x, 2, node, 1, true)
		fenced(t, x, 3, node, 1, node == 2)
		fenced(t, x, 3, node, 2, node != 2)
	}
}

func TestP1802Newest(t *testing.T) {
	newest(t, api.View{})
	newest(t, api.View{}, nil...)
	newest(t, api.View{}, api.View{})
	a, b, c := plain(2, 0, 1), plain(3, 0, 2), plain(5, 0, 3)
	for _, l := range [][]api.View{{a, b, c}, {a, c, b}, {b, a, c}, {b, c, a}, {c, a, b}, {c, b, a}, {c}, {c, c}, {a, c}, {a, a, c}} {
		newest(t, c, l...)
	}
	newest(t, b, a, b)
	newest(t, a, a)
}

// Of several of the greatest epoch it is the first.
func TestP1802NewestFirst(t *testing.T) {
	one, two, old := plain(7, 0, 1), plain(7, 0, 2), plain(6, 0, 3)
	newest(t, one, one, two)
	newest(t, two, two, one)
	newest(t, one, old, one, two, old)
	newest(t, two, old, two, old, one)
	newest(t, two, two, old, one, one)
	newest(t, of(7), of(7), one)
	newest(t, one, one, of(7))
}

// Any numbers are epochs here, also those of views that may not be.
func TestP1802NewestOfAnyEpochs(t *testing.T) {
	epochs := []int{math.MinInt, math.MinInt + 1, -1 << 32, -5, -1, 0, 1, 5, most, most + 1, 1 << 32, 1<<32 + 1, math.MaxInt - 1, math.MaxInt}
	for k, x := range epochs {
		for i, y := range epochs {
			newest(t, plain(epochs[max(i, k)], 0, max(i, k)), plain(x, 0, k), plain(y, 0, i))
		}
		newest(t, of(x), of(x))
		newest(t, plain(x, 3, 2, 2), plain(x, 3, 2, 2))
	}
	newest(t, plain(-5, 3), plain(-5, 3), of(-9))
	newest(t, plain(-5, 3), of(-9), plain(-5, 3))
	newest(t, of(0), plain(-5, 3), of(0))
}

func TestP1802NewestOfMany(t *testing.T) {
	l := make([]api.View, 100000)
	for k := range l {
		l[k] = of(k*7919%100003, member(k, 1))
	}
	at := 0
	for k := range l {
		if l[k].Epoch > l[at].Epoch {
			at = k
		}
	}
	newest(t, l[at], l...)
}

// answers are all the views that calls answer of v, of which node 1 is a member and node 2 is none, with what those are.
func answers(t *testing.T, v api.View) (got, want []api.View) {
	t.Helper()
	out, e := view.Without(v, 1)
	in, x := view.With(v, 2, 9)
	if e != api.OK || x != api.OK {
		t.Fatalf("P1803: of %v: %d, %d", v, e, x)
	}
	w, y := slowWithout(v, []int{1}), slowWith(v, 2, 9)
	return []api.View{out, in, view.Newest(v), view.Newest(v, of(v.Epoch-1), v)}, []api.View{w.view, y.view, copied(v), copied(v)}
}

// copied answers a view that has nothing in common with v.
func copied(v api.View) api.View { return of(v.Epoch, slices.Clone(v.Members)...) }

// filled spoils all the memory that v has, with its spare room.
func filled(v api.View) {
	for k := range v.Members[:cap(v.Members)] {
		v.Members[:cap(v.Members)][k] = member(-7, -8)
	}
}

func TestP1803HandedInStays(t *testing.T) {
	for _, v := range []api.View{plain(4, 0, 1, 3, 5), plain(4, 0, 1), of(most, member(0, 1), member(1, 1)), plain(0, 0, 1), plain(4, 0, 3, 1)} {
		room := append(slices.Clone(v.Members), member(88, 1), member(0, 2), member(2, 3), member(9, 4))
		whole := slices.Clone(room)
		v.Members = room[:len(v.Members)]
		nodes := []int{3, 1, 1, 5, 2, 4}
		was := slices.Clone(nodes)
		l := []api.View{plain(3, 0), v, plain(9, 0), plain(77, 0)}
		for long := range nodes {
			view.Without(v, nodes[:long]...)
		}
		for node := -1; node < 17; node++ {
			view.With(v, node, 4)
			view.Has(v, node, 1)
			view.Fenced(v, 4, node, 1)
		}
		view.May(v)
		view.Newest(l[:3]...)
		view.Newest(l[:2]...)
		if !slices.Equal(room, whole) || !slices.Equal(nodes, was) {
			t.Errorf("P1803: what was handed in is now %v and %v, not %v and %v", room, nodes, whole, was)
		}
		if !same(l[0], plain(3, 0)) || !same(l[1], v) || !same(l[2], plain(9, 0)) || !same(l[3], plain(77, 0)) {
			t.Errorf("P1803: the views that were handed in are now %v", l)
		}
	}
}

func TestP1803NewMemory(t *testing.T) {
	for _, nodes := range [][]int{{0, 1}, {0, 1, 3}, {0, 1, 3, 4, 5, 6, 7, 8, 9}, {0, 1, 3, 4, 5, 6, 7, 8, 9, 10, 11, 12, 13, 14, 15}} {
		v := plain(4, nodes...)
		v.Members = append(slices.Grow(v.Members, 5), member(99, 99))[:len(nodes)]
		whole := slices.Clone(v.Members[:len(nodes)+1])
		a, want := answers(t, v)
		b, _ := answers(t, v)
		for k := range a {
			filled(a[k])
			for i := k + 1; i < len(a); i++ {
				if !same(a[i], want[i]) {
					t.Errorf("P1803: answers %d and %d of %v share memory", k, i, nodes)
				}
			}
		}
		if !slices.Equal(v.Members[:len(nodes)+1], whole) {
			t.Errorf("P1803: what is answered shares memory with what was handed in: %v", v)
		}
		filled(v)
		for k := range b {
			if !same(b[k], want[k]) {
				t.Errorf("P1803: answer %d of %v turns with something else: %v, not %v", k, nodes, b[k], want[k])
			}
		}
	}
}

func TestP1803FirstIsNewMemory(t *testing.T) {
	for nodes := 1; nodes <= api.MaxNodes; nodes++ {
		a, _ := view.First(nodes)
		b, _ := view.First(nodes)
		want := copied(b)
		filled(a)
		if !same(b, want) {
			t.Errorf("P1803: two answers of First(%d) share memory: %v", nodes, b)
		}
		first(t, nodes, want, api.OK)
	}
}

// Nodes and views that were handed in may turn behind the call.
func TestP1803NothingIsKept(t *testing.T) {
	v := plain(4, 0, 1, 2, 3)
	l := []int{1, 3}
	w, _ := view.Without(v, l...)
	l[0], l[1] = 2, 2
	if !same(w, plain(5, 0, 2)) {
		t.Errorf("P1803: what Without answered turns with the nodes: %v", w)
	}
	without(t, v, plain(5, 0, 1, 3), api.OK, l...)
	all := []api.View{plain(3, 0), plain(8, 0, 1), plain(5, 0, 2)}
	w = view.Newest(all...)
	all[1] = plain(4, 0, 9)
	if !same(w, plain(8, 0, 1)) {
		t.Errorf("P1803: what Newest answered turns with the views: %v", w)
	}
	newest(t, plain(5, 0, 2), all...)
}

func TestP1803ArgumentsAlone(t *testing.T) {
	r := rand.New(rand.NewSource(1803))
	var l []api.View
	for range 300 {
		l = append(l, someView(r))
	}
	tell := func(k int) string {
		v, last := l[k], l[max(0, k-3):k]
		a, e := view.Without(v, k%5, k%7+1)
		b, x := view.With(v, k%18-1, k%9)
		c, y := view.First(k % 18)
		return fmt.Sprint(a, e, b, x, c, y, view.May(v), view.Has(v, k%4, 1), view.Fenced(v, k%4, 0, 1), view.Newest(last...))
	}
	var want []string
	for k := range l {
		want = append(want, tell(k))
	}
	var all sync.WaitGroup
	for range 4 {
		all.Go(func() {
			for k := range l {
				if got := tell(k); got != want[k] {
					t.Errorf("P1803: of %v: %s, not %s", l[k], got, want[k])
				}
			}
		})
	}
	all.Wait()
}
