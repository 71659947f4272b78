package table_test

import (
	"fmt"
	"math/rand"
	"slices"
	"sort"
	"strings"
	"testing"

	"gleaner/api"
	"gleaner/table"
)

// The rows of a slow table's tasks.
const (
	isReady = iota
	isGoing
	isParked
)

// slowTask is a task of a slow table, and what it is parked on.
type slowTask struct {
	id, on api.ID
	row    int
}

// slowTable has its tasks as the chapter words it: in the order in which they came to their rows, the newest last.
type slowTable struct {
	max   int
	tasks []slowTask
}

func newSlow(max int) *slowTable {
	if max < 1 {
		max = 1
	}
	return &slowTable{max: max}
}

// slowValid says whether a task can have that name.
func slowValid(id api.ID) bool {
	wrong := 0
	for _, b := range []byte(id) {
		if b > 15 {
			wrong++
		}
	}
	return wrong == 0 && len(id) < 13
}

// find answers where the task is, if it stands in that row; else -1.
func (s *slowTable) find(id api.ID, row int) int {
	return slices.IndexFunc(s.tasks, func(x slowTask) bool { return x.id == id && x.row == row })
}

// take takes a task away.
func (s *slowTable) take(at int) slowTask {
	x := s.tasks[at]
	s.tasks = append(slices.Clone(s.tasks[:at]), s.tasks[at+1:]...)
	return x
}

// bring has a task come to a row.
func (s *slowTable) bring(at, row int, on api.ID) api.ID {
	x := s.take(at)
	s.tasks = append(s.tasks, slowTask{x.id, on, row})
	return x.id
}

func (s *slowTable) add(id api.ID) api.Errno {
	if !slowValid(id) {
		return api.ErrArg
	}
	for _, x := range s.tasks {
		if x.id == id {
			return api.ErrArg
		}
	}
	if len(s.tasks) == s.max {
		return api.ErrFull
	}
	s.tasks = append(s.tasks, slowTask{id: id, row: isReady})
	return api.OK
}

func (s *slowTable) next() (api.ID, bool) {
	for at := len(s.tasks) - 1; at >= 0; at-- {
		if s.tasks[at].row == isReady {
			return s.bring(at, isGoing, ""), true
		}
	}
	return "", false
}

func (s *slowTable) back(id api.ID) bool {
	at := s.find(id, isGoing)
	if at >= 0 {
		s.bring(at, isReady, "")
	}
	return at >= 0
}

func (s *slowTable) park(id, on api.ID) bool {
	at := s.find(id, isGoing)
	if at < 0 || !slowValid(on) {
		return false
	}
	s.bring(at, isParked, on)
	return true
}

// wake looks for the one with the lowest name that is to be woken, as long as there is one.
func (s *slowTable) wake(on ...api.ID) (woken []api.ID) {
	for {
		low := -1
		for at, x := range s.tasks {
			if x.row == isParked && slices.Contains(on, x.on) && (low < 0 || x.id < s.tasks[low].id) {
				low = at
			}
		}
		if low < 0 {
			return woken
		}
		woken = append(woken, s.bring(low, isReady, ""))
	}
}

func (s *slowTable) steal() (api.ID, bool) {
	for at, x := range s.tasks {
		if x.row == isReady {
			return s.take(at).id, true
		}
	}
	return "", false
}

func (s *slowTable) end(id api.ID) bool {
	at := s.find(id, isGoing)
	if at >= 0 {
		s.take(at)
	}
	return at >= 0
}

// in answers who stands in the row, in the order in which they came there, or rising.
func (s *slowTable) in(row int) []api.ID {
	var out []string
	for _, x := range s.tasks {
		if x.row == row {
			out = append(out, string(x.id))
		}
	}
	if row != isReady {
		sort.Strings(out)
	}
	var ids []api.ID
	for _, id := range out {
		ids = append(ids, api.ID(id))
	}
	return ids
}

// both is a table and a slow one that are told the same.
type both struct {
	t    *testing.T
	fast *table.Table
	slow *slowTable
	told []string // the calls, so that a failure tells them
}

func newBoth(t *testing.T, max int) *both {
	return &both{t: t, fast: table.New(max), slow: newSlow(max)}
}

// fail ends the test with what was told.
func (b *both) fail(p, what string, args ...any) {
	b.t.Helper()
	told := b.told[max(0, len(b.told)-40):]
	b.t.Fatalf("%s: %s, behind %s", p, fmt.Sprintf(what, args...), strings.Join(told, ", "))
}

// same asks that both have the same in all rows.
func (b *both) same() {
	b.t.Helper()
	if got, want := b.fast.Ready(), b.slow.in(isReady); !slices.Equal(got, want) {
		b.fail("P1602", "Ready %q, not %q", got, want)
	}
	if got, want := b.fast.Going(), b.slow.in(isGoing); !slices.Equal(got, want) {
		b.fail("P1602", "Going %q, not %q", got, want)
	}
	if got, want := b.fast.Parked(), b.slow.in(isParked); !slices.Equal(got, want) {
		b.fail("P1602", "Parked %q, not %q", got, want)
	}
	if got, want := b.fast.Len(), len(b.slow.tasks); got != want {
		b.fail("P1602", "Len %d, not %d", got, want)
	}
}

// calls is how many kinds of calls there are that change a table.
const calls = 7

// do does one call with both, and asks that they answer the same; names that the call does not have are not looked at.
func (b *both) do(call int, id, on api.ID, more ...api.ID) {
	b.t.Helper()
	switch call {
	case 0:
		b.told = append(b.told, fmt.Sprintf("Add %q", id))
		b.answers(b.fast.Add(id), b.slow.add(id))
	case 1:
		b.told = append(b.told, "Next")
		got, ok := b.fast.Next()
		want, is := b.slow.next()
		b.answers([2]any{got, ok}, [2]any{want, is})
	case 2:
		b.told = append(b.told, fmt.Sprintf("Back %q", id))
		b.answers(b.fast.Back(id), b.slow.back(id))
	case 3:
		b.told = append(b.told, fmt.Sprintf("Park %q %q", id, on))
		b.answers(b.fast.Park(id, on), b.slow.park(id, on))
	case 4:
		l := append([]api.ID{id, on}, more...)
		b.told = append(b.told, fmt.Sprintf("Wake %q", l))
		b.answers(fmt.Sprintf("%q", b.fast.Wake(l...)), fmt.Sprintf("%q", b.slow.wake(l...)))
	case 5:
		b.told = append(b.told, "Steal")
		got, ok := b.fast.Steal()
		want, is := b.slow.steal()
		b.answers([2]any{got, ok}, [2]any{want, is})
	default:
		b.told = append(b.told, fmt.Sprintf("End %q", id))
		b.answers(b.fast.End(id), b.slow.end(id))
	}
}

func (b *both) answers(got, want any) {
	b.t.Helper()
	if got != want {
		b.fail("P1601", "%v, not %v", got, want)
	}
}

// someName makes one of a few names, one that can't be now and then.
func someName(r *rand.Rand) api.ID {
	return []api.ID{"", "\x00", "\x00\x01", "\x01", "\x0f", "\x0f\x00", "\x02", "\x03", "\x09\x0a\x0b", longest, "\x10", longest + "\x00", "r"}[r.Intn(13)]
}

func TestP1601AsSlow(t *testing.T) {
	r := rand.New(rand.NewSource(1601))
	for range 1500 {
		b := newBoth(t, r.Intn(12)-1)
		weight := [calls]int{1 + r.Intn(6), 1 + r.Intn(6), r.Intn(4), r.Intn(5), r.Intn(3), r.Intn(3), r.Intn(3)}
		var draw []int
		for call, n := range weight {
			draw = append(draw, slices.Repeat([]int{call}, n)...)
		}
		for range 200 {
			b.do(draw[r.Intn(len(draw))], someName(r), someName(r), []api.ID{someName(r)}[:r.Intn(2)]...)
			b.same()
		}
	}
}

// Each row of four calls, of two tasks and one that is not there.
func TestP1601EachShortScript(t *testing.T) {
	type step struct {
		call   int
		id, on api.ID
	}
	steps := []step{{call: 1}, {call: 5}}
	for _, id := range []api.ID{"", "\x01"} {
		for _, call := range []int{0, 2, 6} {
			steps = append(steps, step{call: call, id: id})
		}
		for _, on := range []api.ID{"", "\x01", "\x02"} {
			steps = append(steps, step{3, id, on})
		}
		steps = append(steps, step{4, id, id})
	}
	steps = append(steps, step{4, "", "\x01"}, step{4, "\x02", "\x02"})
	for _, begin := range []struct{ max, nexts int }{{1, 0}, {2, 0}, {2, 1}, {2, 2}} {
		var l [4]int
		for going := true; going; {
			b := newBoth(t, begin.max)
			b.do(0, "\x01", "")
			b.do(0, "", "")
			for range begin.nexts {
				b.do(1, "", "")
			}
			for _, k := range l {
				b.do(steps[k].call, steps[k].id, steps[k].on)
			}
			b.same()
			going = count(l[:], len(steps))
		}
	}
}

// count goes on to the next row of numbers below n; false: it was the last.
func count(l []int, n int) bool {
	for k := range l {
		if l[k]++; l[k] < n {
			return true
		}
		l[k] = 0
	}
	return false
}

func FuzzP1601(f *testing.F) {
	f.Add(2, []byte("\x00\x10\x01\x01\x23\x03\x04"))
	f.Add(-1, []byte("\x00\x10\x05\x00\x06"))
	f.Add(5, []byte("\x00\x10\x20\x30\x40\x50\x01\x01\x01\x13\x23\x33\x14\x24\x02\x05\x06"))
	f.Fuzz(func(t *testing.T, max int, script []byte) {
		b := newBoth(t, max)
		for k, x := range script[:min(len(script), 500)] {
			id := api.ID([]byte{x >> 3})
			on := api.ID([]byte{x >> 4, byte(k)}[:k%3])
			b.do(int(x&7), id, on, id, on)
			b.same()
		}
	})
}
