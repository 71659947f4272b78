package task

import "gleaner/api"

// state is where a task stands, in memory of its own.
type state struct {
	api.State
}

// ownState answers s with lists of its own, so that it can go on without turning what was handed in.
func ownState(s api.State) state {
	s.Stack, s.Locals = own(s.Stack), own(s.Locals)
	return state{s}
}

func own(l []int) []int {
	return append([]int(nil), l...)
}

// top answers the last value of a stack that is not empty.
func top(stack []int) int {
	return stack[len(stack)-1]
}

// last answers the value that was pushed last.
func (s *state) last() int {
	return top(s.Stack)
}

// lastTwo answers the two values that were pushed last: the one pushed first is on the left.
func (s *state) lastTwo() (left, right int) {
	return s.Stack[len(s.Stack)-2], s.last()
}

// put takes the last n values off the stack, and pushes values in their place.
func (s *state) put(n int, values ...int) {
	s.Stack = append(s.Stack[:len(s.Stack)-n], values...)
}

// take takes the last n values off the stack and answers them, the one pushed last as the last.
func (s *state) take(n int) []int {
	values := own(s.Stack[len(s.Stack)-n:])
	s.put(n)
	return values
}
