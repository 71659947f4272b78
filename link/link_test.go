package link_test

import (
	"bytes"
	"fmt"
	"math"
	"math/rand"
	"slices"
	"strings"
	"sync"
	"testing"

	"gleaner/api"
	"gleaner/frame"
	"gleaner/link"
	"gleaner/net"
)

// fresh is a link of node 1 in life 7 to node 2 in life 8.
func fresh() *link.Link { return link.New(1, 2, 7, 8, 1000) }

// from2 is a frame that may come to it.
func from2(seq, ack int, load string) api.Frame {
	return api.Frame{From: 2, To: 1, Life: 8, Seq: seq, Ack: ack, Load: []byte(load)}
}

// to2 is a frame that may go out from it.
func to2(seq, ack int, load string) api.Frame {
	return api.Frame{From: 1, To: 2, Life: 7, Seq: seq, Ack: ack, Load: []byte(load)}
}

// sends asks that each load is taken.
func sends(t *testing.T, l *link.Link, loads ...string) {
	t.Helper()
	for _, x := range loads {
		if e := l.Send([]byte(x)); e != api.OK {
			t.Fatalf("P1301: Send of %q: %d", x, e)
		}
	}
}

// counts asks for as many open loads and used numbers.
func counts(t *testing.T, l *link.Link, open, seq int) {
	t.Helper()
	if l.Open() != open || l.Seq() != seq {
		t.Errorf("P1301: %d open, %d used, not %d and %d", l.Open(), l.Seq(), open, seq)
	}
}

// outs asks for just these frames.
func outs(t *testing.T, l *link.Link, now int, want ...api.Frame) {
	t.Helper()
	if got := l.Out(now); !slices.EqualFunc(got, want, same) {
		t.Errorf("P1302: Out(%d): %v, not %v", now, got, want)
	}
}

// takes asks that f is taken, and that just these loads are answered.
func takes(t *testing.T, l *link.Link, f api.Frame, want ...string) {
	t.Helper()
	got, ok := l.In(f)
	if !ok || len(got) != len(want) {
		t.Errorf("P1303: In of %v: %q %v, not %q", f, got, ok, want)
		return
	}
	for k := range got {
		if string(got[k]) != want[k] {
			t.Errorf("P1303: In of %v: %q, not %q", f, got, want)
		}
	}
}

// refuses asks that f is not taken.
func refuses(t *testing.T, l *link.Link, f api.Frame) {
	t.Helper()
	if got, ok := l.In(f); ok || len(got) != 0 {
		t.Errorf("P1303: In of From %d To %d Life %d Seq %d Ack %d, %d bytes: %q %v", f.From, f.To, f.Life, f.Seq, f.Ack, len(f.Load), got, ok)
	}
}

func TestP1301Counts(t *testing.T) {
	l := fresh()
	counts(t, l, 0, 0)
	for k := 1; k <= api.Window; k++ {
		sends(t, l, "x")
		counts(t, l, k, k)
	}
	l.Out(0)
	counts(t, l, 8, 8)
	takes(t, l, from2(0, 3, ""))
	counts(t, l, 5, 8)
	sends(t, l, "y")
	counts(t, l, 6, 9)
	takes(t, l, from2(1, 9, "z"), "z")
	counts(t, l, 0, 9)
}

func TestP1301Lengths(t *testing.T) {
	for _, long := range []int{0, 1, 2, 255, 4095, 4096} {
		l := fresh()
		load := strings.Repeat("q", long)
		sends(t, l, load)
		counts(t, l, 1, 1)
		outs(t, l, 0, to2(1, 0, load))
	}
	l := fresh()
	if e := l.Send(nil); e != api.OK {
		t.Errorf("P1301: Send of nil: %d", e)
	}
	for _, long := range []int{4097, 4098, 8192, 65536, 1 << 20} {
		l := fresh()
		sends(t, l, "a")
		if e := l.Send(make([]byte, long)); e != api.ErrLong {
			t.Errorf("P1301: Send of %d bytes: %d", long, e)
		}
		counts(t, l, 1, 1)
		outs(t, l, 0, to2(1, 0, "a"))
	}
}

func TestP1301AllNumbersUsed(t *testing.T) {
	for _, last := range []int{math.MinInt, -9, -1, 0, 1, 2, 7, 8} {
		l := link.New(1, 2, 7, 8, last)
		many := max(last, 0)
		for k := range many {
			if e := l.Send([]byte{byte(k)}); e != api.OK {
				t.Errorf("P1301: Send of number %d of %d: %d", k+1, last, e)
			}
		}
		for range 3 {
			if e := l.Send(nil); e != api.ErrDone {
				t.Errorf("P1301: Send, the last being %d: %d", last, e)
			}
		}
		counts(t, l, many, many)
		if f := l.Out(0); len(f) != many {
			t.Errorf("P1301: %d go out of %d", len(f), last)
		}
		takes(t, l, from2(0, many, ""))
		if e := l.Send(nil); e != api.ErrDone { // what is acknowledged gives no number back
			t.Errorf("P1301: Send, all of %d being acknowledged: %d", last, e)
		}
		counts(t, l, 0, many)
	}
	l := link.New(1, 2, 7, 8, math.MaxInt)
	for k := range 100 {
		sends(t, l, "x")
		takes(t, l, from2(0, k+1, ""))
	}
	counts(t, l, 0, 100)
}

func TestP1301LastBehindMany(t *testing.T) {
	l := link.New(1, 2, 7, 8, 19)
	for k := range 19 {
		sends(t, l, "x")
		takes(t, l, from2(0, k, ""))
		counts(t, l, 1, k+1)
	}
	if e := l.Send(nil); e != api.ErrDone {
		t.Errorf("P1301: Send of number 20 of 19: %d", e)
	}
}

func TestP1301Full(t *testing.T) {
	l := fresh()
	sends(t, l, "1", "2", "3", "4", "5", "6", "7", "8")
	for range 3 {
		if e := l.Send([]byte("9")); e != api.ErrFull {
			t.Errorf("P1301: Send, eight being open: %d", e)
		}
		counts(t, l, 8, 8)
	}
	takes(t, l, from2(0, 2, ""))
	sends(t, l, "9", "10")
	if e := l.Send([]byte("11")); e != api.ErrFull {
		t.Errorf("P1301: Send, eight being open again: %d", e)
	}
	outs(t, l, 0, to2(3, 0, "3"), to2(4, 0, "4"), to2(5, 0, "5"), to2(6, 0, "6"), to2(7, 0, "7"), to2(8, 0, "8"), to2(9, 0, "9"), to2(10, 0, "10"))
	if e := l.Send([]byte("11")); e != api.ErrFull { // that they were out makes no room
		t.Errorf("P1301: Send, eight being out: %d", e)
	}
}

func TestP1301OrderOfErrors(t *testing.T) {
	long := make([]byte, 4097)
	for _, x := range []struct {
		last, sent int
		load       []byte
		want       api.Errno
	}{
		{8, 8, long, api.ErrLong}, {8, 8, nil, api.ErrDone}, {9, 8, long, api.ErrLong}, {9, 8, nil, api.ErrFull},
		{2, 2, long, api.ErrLong}, {2, 2, nil, api.ErrDone}, {0, 0, long, api.ErrLong}, {-1, 0, nil, api.ErrDone},
	} {
		l := link.New(1, 2, 7, 8, x.last)
		for range x.sent {
			sends(t, l, "x")
		}
		if e := l.Send(x.load); e != x.want {
			t.Errorf("P1301: Send of %d bytes, %d of %d used: %d, not %d", len(x.load), x.sent, x.last, e, x.want)
		}
		counts(t, l, x.sent, x.sent)
	}
}

func TestP1302Example(t *testing.T) {
	l := fresh()
	sends(t, l, "a")
	f := to2(1, 0, "a")
	outs(t, l, 0, f)
	outs(t, l, 1)
	outs(t, l, 4, f)
	outs(t, l, 8)
	outs(t, l, 12, f)
}

func TestP1302TimesAtEachMoment(t *testing.T) {
	for _, begin := range []int{0, 1, -1, -50, 1000, math.MinInt, math.MinInt + 63, -1 << 40} {
		l := fresh()
		sends(t, l, "a")
		var times []int
		for k := range 700 {
			f := l.Out(begin + k)
			if len(f) > 1 || len(f) == 1 && !same(f[0], to2(1, 0, "a")) {
				t.Fatalf("P1302: Out(%d): %v", begin+k, f)
			}
			if len(f) == 1 {
				times = append(times, k)
			}
		}
		if want := []int{0, 4, 12, 28, 60, 124, 188, 252, 316, 380, 444, 508, 572, 636}; !slices.Equal(times, want) {
			t.Errorf("P1302: from %d on it was out at %v, not %v", begin, times, want)
		}
	}
}

// The wait begins when the load was out, not when it was due.
func TestP1302OutLate(t *testing.T) {
	l := fresh()
	sends(t, l, "a")
	f := to2(1, 0, "a")
	for _, x := range []struct {
		now int
		out bool
	}{{10, true}, {13, false}, {100, true}, {107, false}, {108, true}, {123, false}, {1000, true}, {1031, false}, {1032, true}, {1095, false}, {1097, true}, {1160, false}, {1161, true}, {1224, false}, {1 << 50, true}, {1<<50 + 63, false}, {1<<50 + 64, true}} {
		if x.out {
			outs(t, l, x.now, f)
		}
		outs(t, l, x.now)
	}
}

func TestP1302TimeGoesBack(t *testing.T) {
	l := fresh()
	sends(t, l, "a")
	outs(t, l, 100, to2(1, 0, "a"))
	for _, now := range []int{99, 0, -5, -1 << 62, math.MinInt, math.MinInt + 3, 100, 103} {
		outs(t, l, now)
	}
	outs(t, l, 104, to2(1, 0, "a"))
	sends(t, l, "b")
	outs(t, l, -1000, to2(2, 0, "b")) // it was never out: due at whatever time
	outs(t, l, -996, to2(2, 0, "b"))
	outs(t, l, 111, to2(2, 0, "b"))
	outs(t, l, 112, to2(1, 0, "a"))
}

func TestP1302TimesAtTheEnds(t *testing.T) {
	f := to2(1, 0, "a")
	for _, begin := range []int{math.MaxInt, math.MaxInt - 1, math.MaxInt - 3} {
		l := fresh()
		sends(t, l, "a")
		outs(t, l, begin, f)
		for _, now := range []int{math.MaxInt, math.MinInt, math.MinInt + 3, begin, begin - 1, 0, -1, math.MaxInt} {
			outs(t, l, now)
		}
		counts(t, l, 1, 1)
	}
	l := fresh()
	sends(t, l, "a")
	outs(t, l, math.MaxInt-12, f)
	outs(t, l, math.MaxInt-9)
	outs(t, l, math.MaxInt-8, f)
	outs(t, l, math.MaxInt-1)
	outs(t, l, math.MaxInt, f)
	outs(t, l, math.MaxInt)
	outs(t, l, math.MinInt)
	l = fresh()
	sends(t, l, "a")
	outs(t, l, math.MinInt, f)
	outs(t, l, math.MinInt+3)
	outs(t, l, math.MaxInt, f) // far more than an int behind
	outs(t, l, math.MaxInt)
}

// Each load waits by itself; those that are due together go by rising number.
func TestP1302EachByItself(t *testing.T) {
	l := fresh()
	a, b, c := to2(1, 0, "a"), to2(2, 0, "b"), to2(3, 0, "c")
	sends(t, l, "a")
	outs(t, l, 0, a)
	sends(t, l, "b")
	outs(t, l, 1, b)
	outs(t, l, 2)
	sends(t, l, "c")
	outs(t, l, 4, a, c)
	outs(t, l, 5, b)
	outs(t, l, 8, c)
	outs(t, l, 11)
	outs(t, l, 13, a, b)
	outs(t, l, 16, c)
	takes(t, l, from2(0, 1, ""))
	outs(t, l, 29, b)
	takes(t, l, from2(0, 2, ""))
	outs(t, l, 500, c)
	takes(t, l, from2(0, 3, ""))
	outs(t, l, 5000)
}

// A number's place may be another one's later: that begins anew.
func TestP1302LaterLoadsBeginAnew(t *testing.T) {
	l := fresh()
	for k := range 40 {
		load := fmt.Sprint("load", k)
		sends(t, l, load)
		outs(t, l, 100*k, to2(k+1, 0, load))
		outs(t, l, 100*k+3)
		outs(t, l, 100*k+4, to2(k+1, 0, load))
		outs(t, l, 100*k+11)
		outs(t, l, 100*k+12, to2(k+1, 0, load))
		takes(t, l, from2(0, k+1, ""))
		outs(t, l, 100*k+99)
	}
}

func TestP1302NothingToTell(t *testing.T) {
	l := fresh()
	for _, now := range []int{0, 1, -1, 64, math.MaxInt, math.MinInt} {
		outs(t, l, now)
	}
}

func TestP1302Owed(t *testing.T) {
	l := fresh()
	takes(t, l, from2(1, 0, "a"), "a")
	outs(t, l, 0, to2(0, 1, ""))
	outs(t, l, 0)
	outs(t, l, 1000)
	takes(t, l, from2(3, 0, "c"))
	takes(t, l, from2(4, 0, "d"))
	outs(t, l, -7, to2(0, 1, "")) // one for both, up to the gap
	outs(t, l, -7)
	takes(t, l, from2(2, 0, "b"), "b", "c", "d")
	outs(t, l, 5, to2(0, 4, ""))
	outs(t, l, 6)
}

// A frame with a load acknowledges too: then no other one goes.
func TestP1302OwedWithALoad(t *testing.T) {
	l := fresh()
	sends(t, l, "m", "n")
	takes(t, l, from2(1, 0, "a"), "a")
	outs(t, l, 0, to2(1, 1, "m"), to2(2, 1, "n"))
	outs(t, l, 1)
	takes(t, l, from2(2, 0, "b"), "b")
	outs(t, l, 2, to2(0, 2, "")) // the open ones are not due
	outs(t, l, 3)
	outs(t, l, 4, to2(1, 2, "m"), to2(2, 2, "n"))
	takes(t, l, from2(0, 0, "")) // of which none is owed
	outs(t, l, 5)
	takes(t, l, from2(3, 2, "c"), "c")
	outs(t, l, 400, to2(0, 3, "")) // nothing is open any more
	outs(t, l, 401)
}

// What goes out is as its link was told, whatever these numbers are.
func TestP1302Whose(t *testing.T) {
	for _, x := range [][4]int{{0, 0, 0, 0}, {5, 5, 5, 5}, {-1, -2, -3, -4}, {math.MinInt, math.MaxInt, math.MinInt, math.MaxInt}, {0, 15, 1, 1 << 40}} {
		l := link.New(x[0], x[1], x[2], x[3], 9)
		if got, ok := l.In(api.Frame{From: x[1], To: x[0], Life: x[3], Seq: 1, Load: []byte("a")}); !ok || len(got) != 1 || string(got[0]) != "a" {
			t.Errorf("P1303: %v: %q %v", x, got, ok)
		}
		outs(t, l, 0, api.Frame{From: x[0], To: x[1], Life: x[2], Ack: 1})
		sends(t, l, "b")
		outs(t, l, 0, api.Frame{From: x[0], To: x[1], Life: x[2], Seq: 1, Ack: 1, Load: []byte("b")})
	}
}

// busy is a link with three open loads, two of them out, number 2 in its hands ahead of number 1, and nothing owed.
func busy(t *testing.T) *link.Link {
	l := fresh()
	sends(t, l, "w", "x", "y")
	takes(t, l, from2(2, 1, "b"))
	l.Out(0)
	sends(t, l, "z")
	return l
}

// isBusy asks that l is just as busy leaves one.
func isBusy(t *testing.T, l *link.Link) {
	t.Helper()
	counts(t, l, 3, 4)
	outs(t, l, 3, to2(4, 0, "z"))
	outs(t, l, 3) // nothing was owed
	outs(t, l, 4, to2(2, 0, "x"), to2(3, 0, "y"))
	takes(t, l, from2(1, 1, "a"), "a", "b")
	outs(t, l, 5, to2(0, 2, ""))
	counts(t, l, 3, 4)
}

func TestP1303Refused(t *testing.T) {
	far := []int{-1, 0, 3, 77, math.MinInt, math.MaxInt}
	var wrong []api.Frame
	for _, x := range append(far, 1) {
		f := from2(1, 4, "other")
		f.From = x
		wrong = append(wrong, f)
	}
	for _, x := range append(far, 2) {
		f := from2(1, 4, "other")
		f.To = x
		wrong = append(wrong, f)
	}
	for _, x := range append(far, 7, 9) {
		f := from2(1, 4, "other")
		f.Life = x
		wrong = append(wrong, f)
	}
	for _, x := range []int{5, 6, 1000, math.MaxInt} {
		wrong = append(wrong, from2(1, x, "other"), from2(0, x, ""))
	}
	for _, x := range []int{-1, -2, -8, math.MinInt, -1 << 32} {
		wrong = append(wrong, from2(x, 4, "other"), from2(x, 0, ""))
	}
	for _, x := range []int{4097, 5000, 1 << 20} {
		wrong = append(wrong, from2(1, 4, strings.Repeat("L", x)), from2(0, 4, strings.Repeat("L", x)))
	}
	for _, f := range wrong {
		l := busy(t)
		refuses(t, l, f)
		isBusy(t, l)
	}
	l := busy(t)
	for _, f := range wrong {
		refuses(t, l, f)
	}
	isBusy(t, l)
}

// What comes back to a link from itself is not the peer's.
func TestP1303NotOnesOwn(t *testing.T) {
	l := fresh()
	sends(t, l, "a")
	for _, f := range l.Out(0) {
		refuses(t, l, f)
	}
	counts(t, l, 1, 1)
}

func TestP1303Acks(t *testing.T) {
	for ack := -2; ack <= 8; ack++ {
		l := fresh()
		sends(t, l, "1", "2", "3", "4", "5", "6", "7", "8")
		takes(t, l, from2(0, ack, ""))
		gone := max(ack, 0)
		counts(t, l, 8-gone, 8)
		var want []api.Frame
		for k := gone + 1; k <= 8; k++ {
			want = append(want, to2(k, 0, fmt.Sprint(k)))
		}
		outs(t, l, 0, want...)
	}
}

func TestP1303AcksOfLess(t *testing.T) {
	l := fresh()
	sends(t, l, "1", "2", "3", "4", "5")
	takes(t, l, from2(0, 3, ""))
	for _, ack := range []int{3, 2, 0, -1, math.MinInt, math.MinInt + 1, -1 << 62} {
		takes(t, l, from2(0, ack, ""))
		counts(t, l, 2, 5)
	}
	refuses(t, l, from2(0, 6, ""))
	outs(t, l, 0, to2(4, 0, "4"), to2(5, 0, "5"))
	takes(t, l, from2(0, 5, ""))
	counts(t, l, 0, 5)
	takes(t, l, from2(0, 5, ""))
	counts(t, l, 0, 5)
	takes(t, fresh(), from2(0, math.MinInt, ""))
	takes(t, fresh(), from2(0, 0, ""))
	refuses(t, fresh(), from2(0, 1, ""))
}

// What is acknowledged need not have been out.
func TestP1303AckOfWhatWasNotOut(t *testing.T) {
	l := fresh()
	sends(t, l, "1", "2")
	takes(t, l, from2(0, 1, ""))
	outs(t, l, 0, to2(2, 0, "2"))
}

func TestP1303AckAndLoadInOne(t *testing.T) {
	for _, seq := range []int{1, 2, 8, 9, math.MaxInt} { // whatever becomes of the load
		l := fresh()
		sends(t, l, "m", "n")
		if _, ok := l.In(from2(seq, 1, "a")); !ok {
			t.Errorf("P1303: In of Seq %d", seq)
		}
		counts(t, l, 1, 2)
	}
	l := fresh()
	sends(t, l, "m", "n")
	takes(t, l, from2(1, 0, "a"), "a")
	takes(t, l, from2(1, 2, "a"))
	counts(t, l, 0, 2)
}

func TestP1303Seq0(t *testing.T) {
	l := fresh()
	for _, load := range []string{"", "a", strings.Repeat("L", 4096)} {
		takes(t, l, from2(0, 0, load))
		outs(t, l, 0)
	}
	takes(t, l, from2(1, 0, "a"), "a")
	takes(t, l, from2(0, 0, "")) // what is owed stays
	outs(t, l, 0, to2(0, 1, ""))
}

func TestP1303InOrder(t *testing.T) {
	l := fresh()
	for k := 1; k <= 50; k++ {
		load := strings.Repeat("x", k%3) + fmt.Sprint(k)
		takes(t, l, from2(k, 0, load), load)
		outs(t, l, 0, to2(0, k, ""))
	}
}

func TestP1303EmptyAndLongLoads(t *testing.T) {
	l := fresh()
	long := strings.Repeat("L", 4096)
	takes(t, l, from2(1, 0, ""), "")
	takes(t, l, from2(3, 0, long))
	takes(t, l, from2(4, 0, ""))
	takes(t, l, from2(4, 0, "late")) // the empty one was the first
	takes(t, l, from2(2, 0, ""), "", long, "")
	takes(t, l, from2(2, 0, "late"))
	outs(t, l, 0, to2(0, 4, ""))
	takes(t, l, api.Frame{From: 2, To: 1, Life: 8, Seq: 5}, "")
	takes(t, l, api.Frame{From: 2, To: 1, Life: 8, Seq: 7}) // nil is an empty one, and the first
	takes(t, l, from2(7, 0, "late"))
	takes(t, l, from2(6, 0, "6"), "6", "")
}

// All orders of a few numbers: what is answered is what is in, up to the first gap.
func TestP1303AllOrders(t *testing.T) {
	var rest func(l []int, at int)
	rest = func(l []int, at int) {
		if at == len(l) {
			oneOrder(t, l)
			return
		}
		for k := at; k < len(l); k++ {
			l[at], l[k] = l[k], l[at]
			rest(l, at+1)
			l[at], l[k] = l[k], l[at]
		}
	}
	rest([]int{1, 2, 3, 4, 5, 6}, 0)
}

func oneOrder(t *testing.T, order []int) {
	t.Helper()
	l, in, next := fresh(), map[int]int{}, 1
	for _, seq := range order {
		in[seq] = 1
		var want []string
		for ; in[next] == 1; next++ {
			want = append(want, fmt.Sprint(next))
		}
		takes(t, l, from2(seq, 0, fmt.Sprint(seq)), want...)
		takes(t, l, from2(seq, 0, "again"))
		outs(t, l, 0, to2(0, next-1, ""))
	}
}

func TestP1303Window(t *testing.T) {
	for _, came := range []int{0, 1, 5, 8, 9, 100} {
		l := fresh()
		for k := 1; k <= came; k++ {
			takes(t, l, from2(k, 0, "x"), "x")
		}
		l.Out(0)
		for _, seq := range []int{came + 9, came + 10, came + 16, came + 17, 1 << 31, 1 << 32, math.MaxInt - 1, math.MaxInt} {
			takes(t, l, from2(seq, 0, "far"))
			outs(t, l, 0, to2(0, came, "")) // owed all the same
			outs(t, l, 0)
		}
		var want []string
		for k := 8; k > 1; k-- {
			takes(t, l, from2(came+k, 0, fmt.Sprint(k)))
			outs(t, l, 0, to2(0, came, ""))
			want = append([]string{fmt.Sprint(k)}, want...)
		}
		takes(t, l, from2(came+9, 0, "far"))
		takes(t, l, from2(came+1, 0, "1"), append([]string{"1"}, want...)...)
		outs(t, l, 0, to2(0, came+8, ""))
		takes(t, l, from2(came+16, 0, "16")) // the window went on
		takes(t, l, from2(came+17, 0, "far"))
		takes(t, l, from2(came+9, 0, "9"), "9")
		takes(t, l, from2(came+17, 0, "17"))
		outs(t, l, 0, to2(0, came+9, ""))
	}
}

func TestP1303CameInAlready(t *testing.T) {
	l := fresh()
	for k := 1; k <= 20; k++ {
		takes(t, l, from2(k, 0, "x"), "x")
	}
	takes(t, l, from2(23, 0, "first"))
	l.Out(0)
	for _, seq := range []int{1, 2, 12, 13, 19, 20, 23} {
		takes(t, l, from2(seq, 0, "other"))
		outs(t, l, 0, to2(0, 20, ""))
		outs(t, l, 0)
	}
	takes(t, l, from2(21, 0, "21"), "21")
	takes(t, l, from2(22, 0, "22"), "22", "first")
}

// Only one's own loads end with last: the peer has one of its own.
func TestP1303LastIsOnesOwn(t *testing.T) {
	l := link.New(1, 2, 7, 8, 0)
	for k := 1; k <= 20; k++ {
		takes(t, l, from2(k, 0, "x"), "x")
	}
	outs(t, l, 0, to2(0, 20, ""))
}

func TestP1304RandomSteps(t *testing.T) {
	r := rand.New(rand.NewSource(1304))
	seen := map[string]int{}
	for range 500 {
		b := newBoth(t, r.Intn(3), r.Intn(3), r.Intn(3), r.Intn(3), r.Intn(100))
		for range 200 {
			seen[b.step(r)]++
		}
	}
	for _, x := range strings.Split("Send OK,Send ErrLong,Send ErrDone,Send ErrFull,Out none,Out owed,Out one,Out some,In no,In none,In one,In some", ",") {
		if seen[x] < 300 {
			t.Errorf("the steps that were made are of too few kinds: %v", seen)
		}
	}
}

func TestP1304RandomTimes(t *testing.T) {
	r := rand.New(rand.NewSource(13042))
	ends := []int{math.MinInt, -70, 0, math.MaxInt - 150}
	for range 500 {
		b := newBoth(t, 1, 2, 7, 8, 50)
		for range 100 {
			if r.Intn(3) == 0 {
				b.send(someLoad(r))
			}
			b.out(ends[r.Intn(len(ends))] + r.Intn(150))
			if r.Intn(9) == 0 {
				b.take(someFrame(r, b.slow))
			}
		}
	}
}

// side is one of two that send to each other.
type side struct {
	*link.Link
	sent, got [][]byte
}

func (s *side) send(r *rand.Rand, most int) {
	if len(s.sent) >= most || r.Intn(3) == 0 {
		return
	}
	load := append(someLoad(r), byte(len(s.sent)))
	if s.Send(load) == api.OK {
		s.sent = append(s.sent, load)
	}
}

// come hands f in, and asks that all that came from the other one is a beginning of what that sent.
func (s *side) come(t *testing.T, f api.Frame, other *side) {
	t.Helper()
	l, _ := s.In(f)
	for _, x := range l {
		s.got = append(s.got, bytes.Clone(x))
		filled(x)
	}
	if len(s.got) > len(other.sent) || !slices.EqualFunc(s.got, other.sent[:len(s.got)], bytes.Equal) {
		t.Fatalf("P1304: %v came of %v", s.got, other.sent)
	}
}

// through tells whether each has so many of the other one, and knows that the other one has its own.
func through(a, b *side, many int) bool {
	return len(a.got) == many && len(b.got) == many && a.Open() == 0 && b.Open() == 0
}

func TestP1304LossyBothWays(t *testing.T) {
	for seed := range int64(60) {
		r := rand.New(rand.NewSource(seed))
		sides := []*side{{Link: link.New(0, 1, 4, 5, 90)}, {Link: link.New(1, 0, 5, 4, 90)}}
		var way []api.Frame
		lost, now := r.Intn(3), 0
		for ; now < 30000 && !through(sides[0], sides[1], 90); now++ {
			for _, s := range sides {
				s.send(r, 90)
				way = append(way, s.Out(now)...)
			}
			r.Shuffle(len(way), func(a, b int) { way[a], way[b] = way[b], way[a] })
			for range r.Intn(5) {
				if len(way) == 0 {
					break
				}
				f := way[0]
				if r.Intn(3) > 0 { // else it stays, and comes again
					way = way[1:]
				}
				if r.Intn(3) >= lost {
					f.Load = bytes.Clone(f.Load)
					sides[f.To].come(t, f, sides[1-f.To])
				}
			}
		}
		if !through(sides[0], sides[1], 90) {
			t.Errorf("P1304: %d: %d and %d came till %d", seed, len(sides[0].got), len(sides[1].got), now)
		}
	}
}

// The whole way: links, frames as bytes, the net with its spoilt parcels.
func TestP1304OverTheNet(t *testing.T) {
	for seed := range int64(20) {
		r := rand.New(rand.NewSource(seed))
		n := net.New()
		sides := []*side{{Link: link.New(0, 1, 4, 5, 40)}, {Link: link.New(1, 0, 5, 4, 40)}}
		refused, now := 0, 0
		for ; now < 30000 && !through(sides[0], sides[1], 40); now++ {
			for _, s := range sides {
				s.send(r, 40)
				for _, f := range s.Out(now) {
					b, e := frame.Pack(f)
					if e != api.OK {
						t.Fatalf("P1302: no frame: %v", f)
					}
					n.Send(api.Parcel{From: f.From, To: f.To, Bytes: b})
				}
			}
			switch k := r.Intn(4); r.Intn(4) {
			case 0:
				n.Drop(k)
			case 1:
				n.Dup(k)
			case 2:
				n.Flip(k, r.Intn(90))
			}
			for range r.Intn(4) {
				p, _ := n.Deliver(r.Intn(4))
				f, e := frame.Read(p.Bytes)
				if e == api.ErrSum {
					refused++
				}
				if e != api.OK {
					continue
				}
				sides[f.To].come(t, f, sides[1-f.To])
			}
		}
		if !through(sides[0], sides[1], 40) || refused == 0 {
			t.Errorf("P1304: %d: %d and %d came till %d", seed, len(sides[0].got), len(sides[1].got), now)
		}
	}
}

// A peer that is in another life gets nothing of this one's.
func TestP1304OtherLives(t *testing.T) {
	a, b, old := link.New(0, 1, 4, 5, 9), link.New(1, 0, 6, 4, 9), link.New(1, 0, 5, 3, 9)
	sends(t, a, "a")
	sends(t, b, "b")
	for _, f := range b.Out(0) {
		refuses(t, a, f)
	}
	for _, f := range a.Out(0) {
		refuses(t, old, f)
		takes(t, b, f, "a") // b knows a's life
	}
	counts(t, a, 1, 1)
}

// filled writes to all the memory that b has.
func filled(b []byte) {
	for k := range b[:cap(b)] {
		b[:cap(b)][k] = 0xEE
	}
}

func TestP1304HandedInIsNotKept(t *testing.T) {
	l := fresh()
	mine, theirs := []byte("mine"), []byte("early")
	l.Send(mine)
	filled(mine)
	outs(t, l, 0, to2(1, 0, "mine"))
	f := from2(2, 0, "")
	f.Load = theirs
	takes(t, l, f)
	filled(theirs)
	f.Seq, f.Load = 1, []byte("next")
	got, _ := l.In(f)
	filled(f.Load)
	if len(got) != 2 || string(got[0]) != "next" || string(got[1]) != "early" {
		t.Errorf("P1304: what was handed in is kept: %q", got)
	}
	outs(t, l, 4, to2(1, 2, "mine"))
}

func TestP1304HandedInStays(t *testing.T) {
	space := bytes.Repeat([]byte{7}, 90)
	l := fresh()
	for k := range 8 {
		l.Send(space[10*k : 10*k+4]) // with spare room
	}
	for k := 8; k > 0; k-- {
		f := from2(k, 0, "")
		f.Load = space[10*k : 10*k+3]
		got, _ := l.In(f)
		for _, x := range got {
			filled(x)
		}
	}
	for _, f := range l.Out(0) {
		filled(f.Load)
	}
	if !bytes.Equal(space, bytes.Repeat([]byte{7}, 90)) {
		t.Errorf("P1304: what was handed in is %v", space)
	}
}

func TestP1304OutIsNewMemory(t *testing.T) {
	l := fresh()
	sends(t, l, "aaaaa", "bbbbb", "ccccc")
	want := []api.Frame{to2(1, 0, "aaaaa"), to2(2, 0, "bbbbb"), to2(3, 0, "ccccc")}
	for n, now := range []int{0, 4, 12} {
		got := l.Out(now)
		filled(got[n].Load) // not even its spare room is another one's
		got[n] = want[n]
		if !slices.EqualFunc(got, want, same) {
			t.Errorf("P1304: the frames share memory: %v", got)
		}
		clear(got[:cap(got)])
	}
	got := l.Out(28)
	takes(t, l, from2(0, 3, ""))
	sends(t, l, "ddddd", "eeeee", "fffff", "ggggg", "hhhhh", "iiiii", "jjjjj", "kkkkk")
	l.Out(29)
	if !slices.EqualFunc(got, want, same) {
		t.Errorf("P1304: an answer turns with the link: %v", got)
	}
}

func TestP1304InIsNewMemory(t *testing.T) {
	for n := range 4 {
		l := fresh()
		for k := 4; k > 1; k-- {
			takes(t, l, from2(k, 0, "load"+fmt.Sprint(k)))
		}
		got, _ := l.In(from2(1, 0, "load1"))
		if len(got) != 4 {
			t.Fatalf("P1303: %q", got)
		}
		filled(got[n])
		for k := range got {
			if k != n && string(got[k]) != "load"+fmt.Sprint(k+1) {
				t.Errorf("P1304: the loads share memory: %q", got)
			}
		}
		kept := [][]byte{got[(n+1)%4], got[(n+2)%4]}
		was := []string{string(kept[0]), string(kept[1])}
		clear(got[:cap(got)])
		for k := 20; k > 4; k-- {
			l.In(from2(k, 0, "other"))
		}
		if string(kept[0]) != was[0] || string(kept[1]) != was[1] {
			t.Errorf("P1304: an answer turns with the link: %q", kept)
		}
	}
}

func TestP1304TwoLinks(t *testing.T) {
	a, b := fresh(), fresh()
	sends(t, a, "a", "b")
	takes(t, a, from2(2, 1, "x"))
	a.Out(0)
	counts(t, b, 0, 0)
	outs(t, b, 0)
	takes(t, b, from2(1, 0, "y"), "y")
	outs(t, b, 0, to2(0, 1, ""))
	counts(t, a, 1, 2)
}

func TestP1304EachLinkByItself(t *testing.T) {
	load := []byte("load")
	var all sync.WaitGroup
	for seed := range int64(8) {
		all.Go(func() {
			a, b := link.New(0, 0, 0, 0, 400), link.New(0, 0, 0, 0, 400)
			r, q := rand.New(rand.NewSource(seed)), rand.New(rand.NewSource(seed))
			for now := range 500 {
				if x, y := tell(r, a, now, load), tell(q, b, now, load); x != y {
					t.Errorf("P1304: two links that were told the same: %s, %s", x, y)
				}
			}
		})
	}
	all.Wait()
	if string(load) != "load" {
		t.Error("P1304: what was handed in has changed")
	}
}

// tell does something to l, and tells what came of it.
func tell(r *rand.Rand, l *link.Link, now int, load []byte) string {
	switch r.Intn(3) {
	case 0:
		return fmt.Sprint(l.Send(load))
	case 1:
		return fmt.Sprint(l.Out(now), l.Open())
	}
	loads, ok := l.In(api.Frame{Seq: r.Intn(30), Ack: l.Seq() - r.Intn(6), Load: load})
	return fmt.Sprint(loads, ok, l.Open(), l.Seq())
}

// Acknowledged and answered loads are not kept: what goes over a link for long is not in memory.
func TestP1304ForLong(t *testing.T) {
	a, b := link.New(0, 1, 1, 1, 1<<40), link.New(1, 0, 1, 1, 1<<40)
	load := make([]byte, 4096)
	for k := 1; k <= 20000; k++ {
		load[0], load[1] = byte(k), byte(k>>8)
		if e := a.Send(load); e != api.OK {
			t.Fatalf("P1301: Send of number %d: %d", k, e)
		}
		for _, f := range a.Out(k) {
			if got, ok := b.In(f); !ok || len(got) != 1 || !bytes.Equal(got[0], load) {
				t.Fatalf("P1304: number %d: %v", k, ok)
			}
		}
		for _, f := range b.Out(k) {
			a.In(f)
		}
		if a.Open() != 0 || a.Seq() != k {
			t.Fatalf("P1301: %d open, %d used", a.Open(), a.Seq())
		}
	}
}

func FuzzP1304(f *testing.F) {
	f.Add(int64(1), 50, 9, 3, 0, 5)
	f.Add(int64(2), 300, 0, -1, math.MinInt, math.MaxInt)
	f.Add(int64(3), 100, 1000, math.MaxInt, math.MaxInt, math.MinInt)
	f.Fuzz(func(t *testing.T, seed int64, steps, last, seq, ack, now int) {
		r := rand.New(rand.NewSource(seed))
		b := newBoth(t, 1, 2, 7, 8, last)
		for range min(steps, 300) {
			b.step(r)
		}
		b.out(now)
		b.take(from2(seq, ack, "load"))
		b.take(from2(ack, seq, "load"))
		b.send([]byte("load"))
		b.out(b.now)
		b.out(now)
	})
}
