package view_test

import (
	"fmt"
	"math"
	"math/rand"
	"slices"
	"testing"

	"gleaner/api"
	"gleaner/view"
)

// slowMay holds each member against each other one, as P1801 words it.
func slowMay(v api.View) bool {
	zero := false
	for k, m := range v.Members {
		for _, later := range v.Members[k+1:] {
			if later.Node <= m.Node {
				return false
			}
		}
		if m.Node < 0 || m.Node > 15 || m.Life < 1 || m.Life > most {
			return false
		}
		if m.Node == 0 {
			zero = true
		}
	}
	return zero && v.Epoch >= 1 && v.Epoch <= most
}

// told is what a call answers.
type told struct {
	view api.View
	e    api.Errno
}

// lives answers for each node in which life v, which may be, has it; 0: it is no member.
func lives(v api.View) [16]int {
	var l [16]int
	for _, m := range v.Members {
		l[m.Node] = m.Life
	}
	return l
}

// slowNext makes the view of an epoch that these lives tell.
func slowNext(epoch int, lives [16]int) told {
	if epoch > most {
		return told{e: api.ErrLimit}
	}
	v := api.View{Epoch: epoch}
	for node, life := range lives {
		if life > 0 {
			v.Members = append(v.Members, member(node, life))
		}
	}
	return told{view: v}
}

func slowWithout(v api.View, nodes []int) told {
	if !slowMay(v) || len(nodes) == 0 {
		return told{e: api.ErrArg}
	}
	was := lives(v)
	left := was
	for _, node := range nodes {
		if node <= 0 || node > 15 || was[node] == 0 {
			return told{e: api.ErrArg}
		}
		left[node] = 0
	}
	return slowNext(v.Epoch+1, left)
}

func slowWith(v api.View, node, life int) told {
	if !slowMay(v) || node < 0 || node > 15 || life < 1 || life > most {
		return told{e: api.ErrArg}
	}
	l := lives(v)
	if l[node] != 0 {
		return told{e: api.ErrArg}
	}
	l[node] = life
	return slowNext(v.Epoch+1, l)
}

func slowHas(v api.View, node, life int) bool {
	for _, m := range v.Members {
		if m.Node == node && m.Life == life {
			return true
		}
	}
	return false
}

// slowNewest sorts the views, those of the greatest epochs first, none past one of its own epoch.
func slowNewest(l []api.View) api.View {
	if len(l) == 0 {
		return api.View{}
	}
	sorted := slices.Clone(l)
	slices.SortStableFunc(sorted, func(a, b api.View) int {
		if a.Epoch == b.Epoch {
			return 0
		}
		if a.Epoch > b.Epoch {
			return -1
		}
		return 1
	})
	return sorted[0]
}

// sameAsSlow asks that all the calls answer of v what the slow ones do.
func sameAsSlow(t *testing.T, v api.View, node, life int, nodes ...int) {
	t.Helper()
	may(t, v, slowMay(v))
	x := slowWithout(v, nodes)
	without(t, v, x.view, x.e, nodes...)
	y := slowWith(v, node, life)
	with(t, v, node, life, y.view, y.e)
	has(t, v, node, life, slowHas(v, node, life))
	for _, epoch := range []int{v.Epoch - 1, v.Epoch, v.Epoch + 1} {
		fenced(t, v, epoch, node, life, epoch != v.Epoch || !slowHas(v, node, life))
	}
	for _, w := range []told{x, y} {
		if w.e == api.OK {
			may(t, w.view, true)
			newest(t, w.view, v, w.view)
			fenced(t, w.view, v.Epoch, 0, v.Members[0].Life, true)
		}
	}
}

// someNumber makes an epoch or a life, mostly a small one, now and then one at an end or beyond.
func someNumber(r *rand.Rand) int {
	switch r.Intn(30) {
	case 0:
		return 0
	case 1:
		return int(r.Uint64())
	case 2, 3, 4:
		return most + 1 - r.Intn(4)
	}
	return 1 + r.Intn(5)
}

// someNode makes a node, now and then a strange one.
func someNode(r *rand.Rand) int {
	if r.Intn(12) == 0 {
		return strange()[r.Intn(len(strange()))]
	}
	return r.Intn(16)
}

// someView makes a view, of which now and then something can't be.
func someView(r *rand.Rand) api.View {
	v := api.View{Epoch: someNumber(r)}
	many := r.Intn(17)
	for node := range 16 {
		if node == 0 && r.Intn(10) > 0 || node > 0 && r.Intn(16) < many {
			v.Members = append(v.Members, member(node, 1+r.Intn(5)))
		}
	}
	if len(v.Members) == 0 {
		return v
	}
	switch k, i := r.Intn(len(v.Members)), r.Intn(len(v.Members)); r.Intn(10) {
	case 0:
		v.Members[k].Life = someNumber(r)
	case 1:
		v.Members[k].Node = someNode(r)
	case 2:
		v.Members[k], v.Members[i] = v.Members[i], v.Members[k]
	case 3:
		v.Members = slices.Insert(v.Members, k, v.Members[i])
	}
	return v
}

// someNodes makes nodes to be put out of v, mostly its members.
func someNodes(r *rand.Rand, v api.View) []int {
	l := make([]int, r.Intn(6))
	for k := range l {
		l[k] = someNode(r)
		if len(v.Members) > 1 && r.Intn(8) > 0 {
			l[k] = v.Members[1+r.Intn(len(v.Members)-1)].Node
		}
	}
	return l
}

func TestP1801AsSlow(t *testing.T) {
	r := rand.New(rand.NewSource(18))
	good := 0
	for range 30000 {
		v := someView(r)
		nodes := someNodes(r, v)
		if slowWithout(v, nodes).e == api.OK {
			good++
		}
		sameAsSlow(t, v, someNode(r), someNumber(r), nodes...)
	}
	if good < 5000 {
		t.Errorf("of all the tries %d alone are good ones", good)
	}
}

// Each set of members, whichever node goes or comes.
func TestP1801EachSet(t *testing.T) {
	for set := range 1 << 16 {
		v := api.View{Epoch: 3}
		for node := range 16 {
			if set>>node&1 == 1 {
				v.Members = append(v.Members, member(node, 2*node+1))
			}
		}
		node := set*7%18 - 1 // so that each comes in turn
		sameAsSlow(t, v, node, 2*max(node, 0)+1, (set*5%16+set/3)%16)
		if t.Failed() {
			return
		}
	}
}

// Each short list of members of nodes and lives at the ends of what they can be.
func TestP1801MayOfEachShortList(t *testing.T) {
	var some []api.Member
	for _, node := range []int{-1, 0, 1, 14, 15, 16} {
		for _, life := range []int{0, 1, most, most + 1} {
			some = append(some, member(node, life))
		}
	}
	for _, epoch := range []int{0, 1, most, most + 1} {
		for long := range 4 {
			at := make([]int, long)
			for going := true; going; going = count(at, len(some)) {
				v := api.View{Epoch: epoch}
				for _, k := range at {
					v.Members = append(v.Members, some[k])
				}
				may(t, v, slowMay(v))
			}
		}
	}
}

// Each short list of nodes that go.
func TestP1801WithoutEachShortList(t *testing.T) {
	views := []api.View{plain(1, 0), plain(1, 0, 1), plain(1, 0, 2), plain(1, 0, 1, 2), plain(most-1, 0, 1, 3), plain(1, 0, 1, 2, 3), plain(most, 0, 1, 2)}
	for _, v := range views {
		for long := range 5 {
			l := make([]int, long)
			for going := true; going; going = count(l, 5) {
				nodes := slices.Clone(l)
				for k := range nodes {
					nodes[k]-- // from -1 to 3
				}
				x := slowWithout(v, nodes)
				without(t, v, x.view, x.e, nodes...)
			}
		}
	}
}

// count goes on to the next row of numbers below n; false: it was the last.
func count(l []int, n int) bool {
	for k := range l {
		if l[k]++; l[k] < n {
			return true
		}
		l[k] = 0
	}
	return false
}

func TestP1802NewestAsSlow(t *testing.T) {
	r := rand.New(rand.NewSource(1802))
	for range 3000 {
		l := make([]api.View, r.Intn(8))
		for k := range l {
			l[k] = someView(r)
		}
		newest(t, slowNewest(l), l...)
	}
}

// Views that follow one another: what came ahead is fenced by each that is newer.
func TestP1802AllThatFollow(t *testing.T) {
	r := rand.New(rand.NewSource(1801))
	for nodes := 1; nodes <= api.MaxNodes; nodes++ {
		v, e := view.First(nodes)
		all := []api.View{v}
		for range 60 {
			l := lives(v)
			w, node := v, 1+r.Intn(15)
			if l[node] != 0 {
				w, e = view.Without(v, node)
			} else {
				w, e = view.With(v, node, 1+r.Intn(4))
			}
			if e != api.OK || w.Epoch != v.Epoch+1 || !view.May(w) {
				t.Fatalf("P1801: behind %v: %v %d", v, w, e)
			}
			v = w
			all = append(all, v)
		}
		r.Shuffle(len(all), func(i, k int) { all[i], all[k] = all[k], all[i] })
		newest(t, v, all...)
		for _, old := range all {
			for _, m := range old.Members {
				fenced(t, v, old.Epoch, m.Node, m.Life, old.Epoch != v.Epoch)
				has(t, v, m.Node, m.Life, lives(v)[m.Node] == m.Life)
			}
		}
	}
}

func FuzzP1801(f *testing.F) {
	f.Add(1, []byte("\x00\x01\x01\x01\x02\x01"), 3, 1, []byte("\x01\x01"))
	f.Add(most, []byte("\x00\x01\x02\x05"), 1, most, []byte("\x02"))
	f.Add(-1, []byte("\x02\x01\x00\x01"), 16, 0, []byte("\x00"))
	f.Add(math.MinInt, []byte(""), math.MaxInt, math.MinInt, []byte(""))
	f.Fuzz(func(t *testing.T, epoch int, members []byte, node, life int, gone []byte) {
		v := api.View{Epoch: epoch}
		for ; len(members) >= 2; members = members[2:] {
			v.Members = append(v.Members, member(int(int8(members[0])), int(int8(members[1]))))
		}
		var nodes []int
		for _, x := range gone {
			nodes = append(nodes, int(int8(x)))
		}
		sameAsSlow(t, v, node, life, nodes...)
		l := []api.View{v, of(life), of(node), v, of(epoch, member(1, 1))}
		if got, want := view.Newest(l...), slowNewest(l); fmt.Sprint(got) != fmt.Sprint(want) {
			t.Errorf("P1802: Newest(%v): %v, not %v", l, got, want)
		}
	})
}
