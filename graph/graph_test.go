package graph_test

import (
	"math"
	"math/bits"
	"slices"
	"sync"
	"testing"

	"gleaner/graph"
)

// strange are numbers that are no nodes, however many there are.
func strange() []int {
	return []int{math.MinInt, math.MinInt + 1, -1 << 32, -1<<32 + 1, math.MinInt32, -4096, -8, -2, -1, 4096, 4097, 8192, 1 << 32, 1<<32 + 1, 1<<62 + 1, math.MaxInt - 1, math.MaxInt}
}

// outside are numbers of nodes that there can't be.
func outside() []int {
	return []int{math.MinInt, math.MinInt + 1, -1 << 32, -1<<32 + 4, math.MinInt32, -4096, -6, -1, 0, 4097, 4098, 8192, 1 << 32, 1<<32 + 6, 1 << 62, math.MaxInt - 1, math.MaxInt}
}

// lines asks for what Lines answers.
func lines(t *testing.T, nodes, node int, want ...int) {
	t.Helper()
	if got := graph.Lines(nodes, node); !slices.Equal(got, want) {
		t.Errorf("P1901: Lines(%d, %d): %v, not %v", nodes, node, got, want)
	}
}

// far asks for what Far answers.
func far(t *testing.T, nodes, a, b, want int) {
	t.Helper()
	if got := graph.Far(nodes, a, b); got != want {
		t.Errorf("P1901: Far(%d, %d, %d): %d, not %d", nodes, a, b, got, want)
	}
}

// reach asks for what Reach answers when these are gone.
func reach(t *testing.T, nodes, from int, gone []int, want ...int) {
	t.Helper()
	if got := graph.Reach(nodes, from, gone...); !slices.Equal(got, want) {
		t.Errorf("P1901: Reach(%d, %d, %v): %v, not %v", nodes, from, gone, got, want)
	}
}

// upTo makes the numbers from 0 on, so many.
func upTo(n int) []int {
	var l []int
	for k := range n {
		l = append(l, k)
	}
	return l
}

func TestP1901LinesExample(t *testing.T) {
	lines(t, 6, 5, 1, 4)
}

func TestP1901Lines(t *testing.T) {
	lines(t, 6, 0, 1, 2, 4)
	lines(t, 6, 1, 0, 3, 5)
	lines(t, 6, 2, 0, 3) // 6 is no node
	lines(t, 6, 3, 1, 2)
	lines(t, 6, 4, 0, 5)
	lines(t, 8, 0, 1, 2, 4)
	lines(t, 8, 5, 1, 4, 7)
	lines(t, 8, 7, 3, 5, 6)
	lines(t, 16, 10, 2, 8, 11, 14)
	lines(t, 13, 12, 4, 8)
	lines(t, 100, 37, 5, 33, 36, 39, 45, 53)
}

// As many bits are turned as it takes to name the last node.
func TestP1901LinesAtPowers(t *testing.T) {
	lines(t, 1, 0)
	lines(t, 2, 0, 1)
	lines(t, 2, 1, 0)
	lines(t, 3, 0, 1, 2)
	lines(t, 3, 1, 0)
	lines(t, 3, 2, 0)
	lines(t, 4, 0, 1, 2)
	lines(t, 4, 3, 1, 2)
	lines(t, 5, 0, 1, 2, 4)
	lines(t, 5, 3, 1, 2)
	lines(t, 5, 4, 0)
	lines(t, 2048, 0, 1, 2, 4, 8, 16, 32, 64, 128, 256, 512, 1024)
	lines(t, 2049, 0, 1, 2, 4, 8, 16, 32, 64, 128, 256, 512, 1024, 2048)
	lines(t, 2049, 2048, 0)
	lines(t, 4095, 4094, 2046, 3070, 3582, 3838, 3966, 4030, 4062, 4078, 4086, 4090, 4092)
	lines(t, 4096, 0, 1, 2, 4, 8, 16, 32, 64, 128, 256, 512, 1024, 2048)
	lines(t, 4096, 4095, 2047, 3071, 3583, 3839, 3967, 4031, 4063, 4079, 4087, 4091, 4093, 4094)
}

func TestP1901LinesOfNoNode(t *testing.T) {
	for _, nodes := range []int{1, 2, 6, 8, 2048, 4095, 4096} {
		lines(t, nodes, nodes)
		lines(t, nodes, nodes+1)
		for _, node := range strange() {
			lines(t, nodes, node)
		}
	}
}

func TestP1901LinesOfNoNumberOfNodes(t *testing.T) {
	for _, nodes := range outside() {
		for _, node := range append(strange(), nodes, nodes-1, 0, 1, 5, 4095) {
			lines(t, nodes, node)
		}
	}
}

func TestP1901Far(t *testing.T) {
	far(t, 1, 0, 0, 0)
	far(t, 2, 0, 1, 1)
	far(t, 2, 1, 0, 1)
	far(t, 6, 4, 4, 0)
	far(t, 6, 0, 5, 2)
	far(t, 6, 5, 3, 2)
	far(t, 6, 2, 5, 3)
	far(t, 8, 0, 7, 3)
	far(t, 8, 3, 4, 3)
	far(t, 100, 99, 28, 7)
	far(t, 2049, 2048, 2047, 12)
	far(t, 4096, 0, 4095, 12)
	far(t, 4096, 2730, 1365, 12)
	far(t, 4096, 4095, 4095, 0)
	far(t, 4096, 4095, 4094, 1)
}

// One that has nearly no lines is come to by way of node 0.
func TestP1901FarOfTheLast(t *testing.T) {
	far(t, 5, 4, 0, 1)
	far(t, 5, 4, 1, 2)
	far(t, 5, 4, 2, 2)
	far(t, 5, 4, 3, 3)
	far(t, 5, 3, 4, 3)
	far(t, 7, 6, 5, 2)
	far(t, 7, 6, 1, 3)
}

func TestP1901FarOfNoNode(t *testing.T) {
	for _, nodes := range []int{1, 2, 6, 8, 2048, 4095, 4096} {
		for _, node := range append(strange(), nodes, nodes+1) {
			far(t, nodes, node, 0, -1)
			far(t, nodes, 0, node, -1)
			far(t, nodes, node, nodes-1, -1)
			far(t, nodes, nodes-1, node, -1)
			far(t, nodes, node, node, -1)
			far(t, nodes, node, node-1, -1)
		}
	}
}

func TestP1901FarOfNoNumberOfNodes(t *testing.T) {
	for _, nodes := range outside() {
		for _, node := range append(strange(), nodes, nodes-1, 0, 1, 5, 4095) {
			far(t, nodes, node, node, -1)
			far(t, nodes, node, 0, -1)
			far(t, nodes, 0, node, -1)
			far(t, nodes, node, node-1, -1)
		}
	}
}

func TestP1901Reach(t *testing.T) {
	reach(t, 1, 0, nil, 0)
	reach(t, 6, 0, nil, 0, 1, 2, 3, 4, 5)
	reach(t, 6, 5, nil, 0, 1, 2, 3, 4, 5)
	reach(t, 6, 0, []int{1}, 0, 2, 3, 4, 5)
	reach(t, 6, 0, []int{1, 2}, 0, 4, 5)
	reach(t, 6, 0, []int{2, 1}, 0, 4, 5)
	reach(t, 6, 0, []int{1, 2, 4}, 0)
	reach(t, 6, 3, []int{0, 1}, 2, 3)
	reach(t, 6, 5, []int{1, 4}, 5)
	reach(t, 6, 5, []int{0}, 1, 2, 3, 4, 5)
	reach(t, 8, 0, []int{1, 2}, 0, 3, 4, 5, 6, 7)
	reach(t, 8, 7, []int{1, 2, 4}, 3, 5, 6, 7)
	reach(t, 8, 7, []int{0, 3, 5, 6}, 7)
}

// Who comes to the others by way of node 0 alone stands alone when that one is gone.
func TestP1901ReachWithoutNode0(t *testing.T) {
	reach(t, 3, 1, []int{0}, 1)
	reach(t, 5, 4, []int{0}, 4)
	reach(t, 5, 3, []int{0}, 1, 2, 3)
	reach(t, 9, 8, []int{0}, 8)
	reach(t, 10, 9, []int{0}, 1, 2, 3, 4, 5, 6, 7, 8, 9)
	reach(t, 2049, 2048, []int{0}, 2048)
	reach(t, 2049, 2047, []int{0}, upTo(2048)[1:]...)
}

func TestP1901ReachFromAGoneOne(t *testing.T) {
	reach(t, 1, 0, []int{0})
	reach(t, 6, 0, []int{0})
	reach(t, 6, 5, []int{1, 5})
	reach(t, 6, 5, []int{5, 5, 5})
	reach(t, 6, 5, upTo(6))
	reach(t, 4096, 4095, []int{4095})
}

// A node that is gone twice is gone once; one that there is not is not in the way.
func TestP1901ReachWithStrangeGoneOnes(t *testing.T) {
	reach(t, 6, 0, []int{1, 1, 2, 2, 1}, 0, 4, 5)
	reach(t, 6, 0, []int{1, 2, 99}, 0, 4, 5)
	reach(t, 6, 0, []int{6, 7, 8, -1, -2}, 0, 1, 2, 3, 4, 5)
	reach(t, 6, 0, strange(), 0, 1, 2, 3, 4, 5)
	reach(t, 6, 0, append(strange(), 1, 2), 0, 4, 5)
	reach(t, 6, 0, append([]int{1, 2}, strange()...), 0, 4, 5)
	reach(t, 4096, 9, strange(), upTo(4096)...)
	reach(t, 4095, 9, []int{4095}, upTo(4095)...)
}

func TestP1901ReachFromNoNode(t *testing.T) {
	for _, nodes := range []int{1, 2, 6, 8, 2048, 4095, 4096} {
		for _, node := range append(strange(), nodes, nodes+1) {
			reach(t, nodes, node, nil)
			reach(t, nodes, node, []int{node})
			reach(t, nodes, node, []int{0})
		}
	}
}

func TestP1901ReachOfNoNumberOfNodes(t *testing.T) {
	for _, nodes := range outside() {
		for _, node := range append(strange(), nodes, nodes-1, 0, 1, 5, 4095) {
			reach(t, nodes, node, nil)
			reach(t, nodes, node, []int{node + 1, 2})
		}
	}
}

func TestP1901ReachOfMany(t *testing.T) {
	reach(t, 4096, 0, upTo(4096)[1:], 0)
	reach(t, 4096, 4095, upTo(4095), 4095)
	reach(t, 4096, 4095, upTo(2048), upTo(4096)[2048:]...)
	reach(t, 4096, 4095, upTo(4094), 4094, 4095)
	var odd []int // whose bits are so that their number is odd: all neighbours of the others
	for node := range 4096 {
		if bits.OnesCount(uint(node))%2 == 1 {
			odd = append(odd, node)
		}
	}
	reach(t, 4096, 0, odd, 0)
	reach(t, 4096, 3, odd, 3)
	reach(t, 4096, 1, odd)
}

func TestP1902FarWithinTheBits(t *testing.T) {
	for nodes := 1; nodes <= 70; nodes++ {
		for a := range nodes {
			for b := range nodes {
				if n, most := graph.Far(nodes, a, b), 2*bits.OnesCount(uint(a^b)); n < 0 || n > most {
					t.Errorf("P1902: Far(%d, %d, %d): %d, beyond %d", nodes, a, b, n, most)
				}
			}
		}
	}
}

func TestP1902AllAreReached(t *testing.T) {
	for nodes := 1; nodes <= 4096; nodes++ {
		if nodes > 300 && nodes%61 > 0 && nodes < 4090 {
			continue
		}
		for _, from := range []int{0, nodes / 3, nodes - 1} {
			if got := graph.Reach(nodes, from); !slices.Equal(got, upTo(nodes)) {
				t.Errorf("P1902: Reach(%d, %d): %v", nodes, from, got)
			}
		}
	}
}

func TestP1902HandedInStays(t *testing.T) {
	room := []int{4, 1, 4, 99, -1, 2, 77, 78}
	was := slices.Clone(room)
	gone := room[:5]
	reach(t, 6, 5, gone, 5)
	reach(t, 6, 0, gone, 0, 2, 3)
	reach(t, 6, 1, gone)
	if !slices.Equal(room, was) {
		t.Errorf("P1902: what was handed in turned into %v", room)
	}
}

func TestP1902NewMemory(t *testing.T) {
	first, second := graph.Lines(6, 5), graph.Lines(6, 5)
	first[0], first[1] = 9, 9
	lines(t, 6, 5, 1, 4)
	if !slices.Equal(second, []int{1, 4}) {
		t.Errorf("P1902: a list of Lines is another's too: %v", second)
	}
	gone := []int{1, 2}
	third, fourth := graph.Reach(6, 0, gone...), graph.Reach(6, 0, gone...)
	for k := range third {
		third[k] = 9
	}
	reach(t, 6, 0, gone, 0, 4, 5)
	if !slices.Equal(fourth, []int{0, 4, 5}) || !slices.Equal(gone, []int{1, 2}) {
		t.Errorf("P1902: a list of Reach is another's too: %v %v", fourth, gone)
	}
}

// What is told a call is nothing to a later one, whoever asks meanwhile.
func TestP1902HangsOnArgumentsAlone(t *testing.T) {
	gone := []int{1, 2, 99}
	var all sync.WaitGroup
	for who := range 8 {
		all.Go(func() {
			for k := range 200 {
				nodes := 6 + 6*((who+k)%2)
				lines(t, 6, 5, 1, 4)
				lines(t, 12, 5, 1, 4, 7)
				far(t, nodes, 5, 3, 2)
				far(t, nodes, 5, 12, -1)
				reach(t, 6, 0, gone, 0, 4, 5)
				reach(t, nodes, 5, nil, upTo(nodes)...)
			}
		})
	}
	all.Wait()
}
