package graph_test

import (
	"math/bits"
	"math/rand"
	"slices"
	"testing"

	"gleaner/graph"
)

// none stands for a way that there is not.
const none = 1 << 20

// slowLine asks of each two nodes whether there is a line, as P1901 words it: one bit of those that are turned is all in which they differ.
func slowLine(nodes, a, b int) bool {
	differ := 0
	for bit := 0; 1<<bit < nodes; bit++ {
		if a>>bit&1 != b>>bit&1 {
			differ++
		}
	}
	return differ == 1
}

// slowFar answers how far each two nodes are from each other without going over gone ones, by shortening ways over each one in turn.
func slowFar(nodes int, gone ...int) [][]int {
	far := make([][]int, nodes)
	for a := range far {
		far[a] = make([]int, nodes)
		for b := range nodes {
			switch {
			case slices.Contains(gone, a) || slices.Contains(gone, b):
				far[a][b] = none
			case a == b:
				far[a][b] = 0
			case slowLine(nodes, a, b):
				far[a][b] = 1
			default:
				far[a][b] = none
			}
		}
	}
	for over := range nodes {
		for a := range nodes {
			for b := range nodes {
				far[a][b] = min(far[a][b], far[a][over]+far[over][b])
			}
		}
	}
	return far
}

// sameAsSlow asks that all the calls answer what the slow ones do, of these many nodes and these gone ones.
func sameAsSlow(t *testing.T, nodes int, gone ...int) {
	t.Helper()
	whole, left := slowFar(nodes), slowFar(nodes, gone...)
	for a := range nodes {
		var to, come []int
		for b := range nodes {
			far(t, nodes, a, b, whole[a][b])
			if whole[a][b] == 1 {
				to = append(to, b)
			}
			if left[a][b] < none {
				come = append(come, b)
			}
		}
		lines(t, nodes, a, to...)
		reach(t, nodes, a, gone, come...)
	}
}

func TestP1901AsSlow(t *testing.T) {
	for nodes := 1; nodes <= 70; nodes++ {
		sameAsSlow(t, nodes)
	}
	sameAsSlow(t, 128)
	sameAsSlow(t, 129)
	sameAsSlow(t, 200)
}

// Each set of gone ones.
func TestP1901ReachEachSet(t *testing.T) {
	for nodes := 1; nodes <= 10; nodes++ {
		for set := range 1 << nodes {
			var gone []int
			for node := range nodes {
				if set>>node&1 == 1 {
					gone = append(gone, node)
				}
			}
			sameAsSlow(t, nodes, gone...)
		}
	}
}

func TestP1901ReachAsSlow(t *testing.T) {
	r := rand.New(rand.NewSource(19))
	for range 600 {
		nodes := 1 + r.Intn(50)
		gone := make([]int, r.Intn(nodes+1))
		for k := range gone {
			gone[k] = r.Intn(nodes+6) - 3
		}
		sameAsSlow(t, nodes, gone...)
	}
}

// The lines of some nodes, however many nodes there are.
func TestP1901EachNumberOfNodes(t *testing.T) {
	for nodes := 1; nodes <= 4096; nodes++ {
		node := nodes * 7 % 4096 % nodes
		for _, a := range []int{0, node, nodes - 1} {
			var want []int
			for b := range nodes {
				if bits.OnesCount(uint(a^b)) == 1 {
					want = append(want, b)
				}
			}
			lines(t, nodes, a, want...)
		}
	}
}

func TestP1901FarByLines(t *testing.T) {
	for _, nodes := range []int{257, 1000, 2047, 2048, 2049, 3000, 4095, 4096} {
		for _, a := range []int{0, 1, nodes / 3, nodes / 2, nodes - 2, nodes - 1} {
			at := map[int]int{a: 0}
			for row, n := []int{a}, 1; len(row) > 0; n++ {
				var next []int
				for _, from := range row {
					for _, to := range graph.Lines(nodes, from) {
						if _, was := at[to]; !was {
							at[to] = n
							next = append(next, to)
						}
					}
				}
				row = next
			}
			for b := range nodes {
				far(t, nodes, a, b, at[b])
				far(t, nodes, b, a, at[b])
			}
			if len(at) != nodes {
				t.Errorf("P1902: of %d nodes %d were come to from %d", nodes, len(at), a)
			}
		}
	}
}

func FuzzP1901(f *testing.F) {
	f.Add(6, 5, 3, []byte("\x01\x04"))
	f.Add(0, 0, 0, []byte(""))
	f.Add(4096, 4095, -1, []byte("\x00\xff"))
	f.Fuzz(func(t *testing.T, nodes, a, b int, l []byte) {
		var gone []int
		for _, x := range l {
			gone = append(gone, int(int8(x)))
		}
		if nodes < 1 || nodes > 4096 || a < 0 || a >= nodes {
			lines(t, nodes, a)
			far(t, nodes, a, b, -1)
			far(t, nodes, b, a, -1)
			reach(t, nodes, a, gone)
			return
		}
		come := graph.Reach(nodes, a, gone...)
		if slices.Contains(gone, a) != (len(come) == 0) || !slices.IsSorted(come) {
			t.Errorf("P1901: Reach(%d, %d, %v): %v", nodes, a, gone, come)
		}
		for _, x := range come {
			reach(t, nodes, x, gone, come...)
			if len(come) > 40 {
				break
			}
		}
		if nodes <= 60 {
			sameAsSlow(t, nodes, gone...)
		}
	})
}
