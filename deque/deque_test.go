package deque_test

import (
	"math"
	"slices"
	"testing"

	"gleaner/api"
	"gleaner/deque"
)

// begin begins a call that must be taken.
func begin(t *testing.T, d *deque.Deque, who, call, item int) {
	t.Helper()
	if e := d.Begin(who, call, item); e != api.OK {
		t.Fatalf("P1501: Begin(%d, %d, %d): %d", who, call, item, e)
	}
	if !d.Busy(who) {
		t.Fatalf("P1501: Begin(%d, %d, %d): it is not busy", who, call, item)
	}
}

// wantStep does a step that must answer that, with that value.
func wantStep(t *testing.T, d *deque.Deque, who, answer, value int) {
	t.Helper()
	if a, v := d.Step(who); a != answer || v != value {
		t.Fatalf("P1501: Step(%d): %d, %d, not %d, %d", who, a, v, answer, value)
	}
	if d.Busy(who) != (answer == api.DGoes) {
		t.Fatalf("P1501: behind Step(%d) that answers %d: Busy %v", who, answer, d.Busy(who))
	}
}

// wantCall does a call whole, which must take so many steps, and answer that with that value.
func wantCall(t *testing.T, d *deque.Deque, who, call, item, steps, answer, value int) {
	t.Helper()
	begin(t, d, who, call, item)
	for range steps - 1 {
		wantStep(t, d, who, api.DGoes, 0)
	}
	wantStep(t, d, who, answer, value)
}

// of answers a row onto which these were pushed, whole.
func of(t *testing.T, l ...int) *deque.Deque {
	t.Helper()
	d := deque.New()
	for _, item := range l {
		wantCall(t, d, 0, api.DPush, item, 4, api.DDone, 0)
	}
	return d
}

func wantItems(t *testing.T, what string, d *deque.Deque, want ...int) {
	t.Helper()
	if got := d.Items(); !slices.Equal(got, want) {
		t.Fatalf("%s: Items %v, not %v", what, got, want)
	}
}

func wantIdle(t *testing.T, what string, d *deque.Deque) {
	t.Helper()
	for who := range api.MaxNodes {
		if d.Busy(who) {
			t.Errorf("%s: %d is busy", what, who)
		}
	}
}

func TestP1501New(t *testing.T) {
	d := deque.New()
	wantItems(t, "P1501: New", d)
	wantIdle(t, "P1501: New", d)
}

func TestP1501Example(t *testing.T) {
	d := deque.New()
	wantCall(t, d, 0, api.DPush, 7, 4, api.DDone, 0)
	wantItems(t, "P1501: push 7", d, 7)
	wantCall(t, d, 1, api.DSteal, 0, 4, api.DItem, 7)
	wantItems(t, "P1501: steal", d)
}

func TestP1501WholeCalls(t *testing.T) {
	d := deque.New()
	wantCall(t, d, 0, api.DPop, 0, 2, api.DEmpty, 0)
	wantCall(t, d, 1, api.DSteal, 0, 2, api.DEmpty, 0)
	wantItems(t, "P1501: of none", d)
	wantCall(t, d, 0, api.DPush, math.MinInt, 4, api.DDone, 0)
	wantCall(t, d, 0, api.DPush, 0, 4, api.DDone, 0)
	wantCall(t, d, 0, api.DPush, math.MaxInt, 4, api.DDone, 0)
	wantItems(t, "P1501: any ints", d, math.MinInt, 0, math.MaxInt)
	wantCall(t, d, 0, api.DPop, 0, 3, api.DItem, math.MaxInt)
	wantItems(t, "P1501: the last is popped", d, math.MinInt, 0)
	wantCall(t, d, 15, api.DSteal, 0, 4, api.DItem, math.MinInt)
	wantItems(t, "P1501: the first is stolen", d, 0)
	wantCall(t, d, 0, api.DPop, 0, 5, api.DItem, 0)
	wantItems(t, "P1501: the only one is popped", d)
	wantCall(t, d, 0, api.DPop, 0, 2, api.DEmpty, 0)
	wantCall(t, d, 7, api.DSteal, 0, 2, api.DEmpty, 0)
	wantCall(t, d, 0, api.DPush, 3, 4, api.DDone, 0)
	wantItems(t, "P1501: pushed again", d, 3)
}

// An item is pushed alone; that of other calls is not looked at.
func TestP1501ItemOfOtherCalls(t *testing.T) {
	d := of(t, 5, 6)
	wantCall(t, d, 1, api.DSteal, 99, 4, api.DItem, 5)
	wantCall(t, d, 0, api.DPop, math.MinInt, 5, api.DItem, 6)
	wantCall(t, d, 0, api.DPop, 99, 2, api.DEmpty, 0)
	wantCall(t, d, 1, api.DSteal, math.MaxInt, 2, api.DEmpty, 0)
	wantItems(t, "P1501", d)
}

func TestP1501BeginRefuses(t *testing.T) {
	d := of(t, 5)
	for _, x := range [][2]int{
		{-1, api.DPush}, {-1, api.DPop}, {-1, api.DSteal}, {api.MaxNodes, api.DSteal}, {api.MaxNodes, api.DPush}, {api.MaxNodes + 1, api.DSteal},
		{math.MinInt, api.DSteal}, {math.MaxInt, api.DSteal}, {math.MinInt, api.DPush}, {math.MaxInt, api.DPop},
		{0, api.DSteal}, {0, 0}, {0, -1}, {0, 4}, {0, math.MinInt}, {0, math.MaxInt},
		{1, api.DPush}, {1, api.DPop}, {1, 0}, {1, 4}, {1, -1}, {1, math.MinInt}, {1, math.MaxInt}, {15, api.DPush}, {15, api.DPop}, {15, 0},
	} {
		if e := d.Begin(x[0], x[1], 9); e != api.ErrArg {
			t.Errorf("P1501: Begin(%d, %d): %d, not ErrArg", x[0], x[1], e)
		}
		if d.Busy(x[0]) {
			t.Errorf("P1501: Begin(%d, %d): it is refused, and busy", x[0], x[1])
		}
	}
	wantIdle(t, "P1501: refused", d)
	wantItems(t, "P1501: refused", d, 5)
}

func TestP1501BeginOfEachWho(t *testing.T) {
	d := deque.New()
	for who := range api.MaxNodes {
		for call := -1; call < 6; call++ {
			want := api.ErrArg
			if who == 0 && (call == api.DPush || call == api.DPop) || who > 0 && call == api.DSteal {
				want = api.OK
			}
			if e := d.Begin(who, call, 0); e != want {
				t.Errorf("P1501: Begin(%d, %d): %d, not %d", who, call, e, want)
			}
			for d.Busy(who) {
				d.Step(who)
			}
		}
	}
}

// A call goes on as it was, whatever else is asked for meanwhile; of two errors ErrArg is told.
func TestP1501BeginWithACall(t *testing.T) {
	for steps := range 4 {
		d := deque.New()
		begin(t, d, 0, api.DPush, 8)
		for range steps {
			wantStep(t, d, 0, api.DGoes, 0)
		}
		for _, x := range []struct {
			call int
			want api.Errno
		}{{api.DPush, api.ErrFull}, {api.DPop, api.ErrFull}, {api.DSteal, api.ErrArg}, {0, api.ErrArg}, {4, api.ErrArg}} {
			if e := d.Begin(0, x.call, 9); e != x.want || !d.Busy(0) {
				t.Errorf("P1501: behind %d steps: Begin(0, %d): %d, not %d", steps, x.call, e, x.want)
			}
		}
		for range 3 - steps {
			wantStep(t, d, 0, api.DGoes, 0)
		}
		wantStep(t, d, 0, api.DDone, 0)
		wantItems(t, "P1501: the call that was refused", d, 8)
	}
	for steps := range 4 {
		d := of(t, 8)
		begin(t, d, 3, api.DSteal, 0)
		for range steps {
			wantStep(t, d, 3, api.DGoes, 0)
		}
		if e := d.Begin(3, api.DSteal, 0); e != api.ErrFull {
			t.Errorf("P1501: behind %d steps: a second steal: %d", steps, e)
		}
		if e := d.Begin(3, api.DPop, 0); e != api.ErrArg {
			t.Errorf("P1501: behind %d steps: a thief's pop: %d", steps, e)
		}
		for range 3 - steps {
			wantStep(t, d, 3, api.DGoes, 0)
		}
		wantStep(t, d, 3, api.DItem, 8)
	}
}

func TestP1501StepWithoutACall(t *testing.T) {
	d := of(t, 5, 6)
	begin(t, d, 2, api.DSteal, 0)
	for _, who := range []int{0, 1, 3, 15, 16, 17, -1, -2, math.MinInt, math.MaxInt} {
		for range 6 {
			if a, v := d.Step(who); a != api.DGoes || v != 0 {
				t.Fatalf("P1501: Step(%d) without a call: %d, %d", who, a, v)
			}
		}
		if d.Busy(who) {
			t.Errorf("P1501: Busy(%d)", who)
		}
	}
	wantItems(t, "P1501: without a call", d, 5, 6)
	for range 3 {
		wantStep(t, d, 2, api.DGoes, 0)
	}
	wantStep(t, d, 2, api.DItem, 5)
	if a, v := d.Step(2); a != api.DGoes || v != 0 {
		t.Errorf("P1501: behind a call: %d, %d", a, v)
	}
	wantItems(t, "P1501: behind a call", d, 6)
}

// Each step alone is seen by Items where it turns top or bottom.
func TestP1501ItemsStepByStep(t *testing.T) {
	d := of(t, 5)
	begin(t, d, 0, api.DPush, 6)
	for range 3 {
		wantStep(t, d, 0, api.DGoes, 0)
		wantItems(t, "P1501: push", d, 5)
	}
	wantStep(t, d, 0, api.DDone, 0)
	wantItems(t, "P1501: push (4)", d, 5, 6)
	begin(t, d, 0, api.DPop, 0)
	wantItems(t, "P1501: pop begins", d, 5, 6)
	wantStep(t, d, 0, api.DGoes, 0)
	wantItems(t, "P1501: pop (1)", d, 5)
	wantStep(t, d, 0, api.DGoes, 0)
	wantStep(t, d, 0, api.DItem, 6)
	wantItems(t, "P1501: pop (3)", d, 5)
	begin(t, d, 1, api.DSteal, 0)
	for range 3 {
		wantStep(t, d, 1, api.DGoes, 0)
		wantItems(t, "P1501: steal", d, 5)
	}
	wantStep(t, d, 1, api.DItem, 5)
	wantItems(t, "P1501: steal (4)", d)
}

func TestP1501ItemsWhilePopIsEmpty(t *testing.T) {
	d := deque.New()
	begin(t, d, 0, api.DPop, 0)
	wantStep(t, d, 0, api.DGoes, 0)
	wantItems(t, "P1501: bottom below top", d)
	wantCall(t, d, 1, api.DSteal, 0, 2, api.DEmpty, 0)
	wantStep(t, d, 0, api.DEmpty, 0)
	wantCall(t, d, 0, api.DPush, 4, 4, api.DDone, 0)
	wantItems(t, "P1501: bottom is top again", d, 4)
}

// A thief that saw bottom ahead of pop's first step, and one that did not.
func TestP1501PopAndThieves(t *testing.T) {
	d := of(t, 5)
	begin(t, d, 1, api.DSteal, 0)
	begin(t, d, 2, api.DSteal, 0)
	wantStep(t, d, 1, api.DGoes, 0)
	wantStep(t, d, 2, api.DGoes, 0)
	wantStep(t, d, 1, api.DGoes, 0)
	begin(t, d, 0, api.DPop, 0)
	wantStep(t, d, 0, api.DGoes, 0)
	wantStep(t, d, 2, api.DEmpty, 0)
	wantStep(t, d, 0, api.DGoes, 0)
	wantStep(t, d, 0, api.DGoes, 0)
	wantStep(t, d, 0, api.DGoes, 0) // it is won
	wantItems(t, "P1501: pop (4)", d)
	wantStep(t, d, 1, api.DGoes, 0)
	wantStep(t, d, 1, api.DLost, 0)
	wantStep(t, d, 0, api.DItem, 5)
	wantItems(t, "P1501: pop (5)", d)
}

func TestP1501PopIsLost(t *testing.T) {
	for ahead := 2; ahead <= 4; ahead++ { // steps of pop ahead of the thief's last one
		d := of(t, 5)
		begin(t, d, 1, api.DSteal, 0)
		for range 3 {
			wantStep(t, d, 1, api.DGoes, 0)
		}
		begin(t, d, 0, api.DPop, 0)
		for range ahead {
			wantStep(t, d, 0, api.DGoes, 0)
		}
		if ahead == 4 {
			wantStep(t, d, 1, api.DLost, 0)
			wantStep(t, d, 0, api.DItem, 5)
			continue
		}
		wantStep(t, d, 1, api.DItem, 5)
		for range 4 - ahead {
			wantStep(t, d, 0, api.DGoes, 0)
		}
		wantStep(t, d, 0, api.DEmpty, 0)
		wantCall(t, d, 0, api.DPush, 6, 4, api.DDone, 0)
		wantItems(t, "P1501: behind a pop that lost", d, 6)
	}
	d := of(t, 5)
	begin(t, d, 1, api.DSteal, 0)
	for range 3 {
		wantStep(t, d, 1, api.DGoes, 0)
	}
	begin(t, d, 0, api.DPop, 0)
	wantStep(t, d, 0, api.DGoes, 0)
	wantStep(t, d, 1, api.DItem, 5)
	wantItems(t, "P1501: top above bottom", d)
	wantStep(t, d, 0, api.DEmpty, 0)
	wantCall(t, d, 0, api.DPush, 6, 4, api.DDone, 0)
	wantItems(t, "P1501: behind a pop that saw it", d, 6)
}

func TestP1501ThievesOfOneTop(t *testing.T) {
	d := of(t, 5, 6)
	for who := 1; who < api.MaxNodes; who++ {
		begin(t, d, who, api.DSteal, 0)
	}
	for range 3 {
		for who := 1; who < api.MaxNodes; who++ {
			wantStep(t, d, who, api.DGoes, 0)
		}
	}
	wantStep(t, d, 9, api.DItem, 5)
	for who := 1; who < api.MaxNodes; who++ {
		if who != 9 {
			wantStep(t, d, who, api.DLost, 0)
		}
	}
	wantItems(t, "P1501: one thief won", d, 6)
}

// What the thief read is what it gets, also where the ring is another one by then, and when its place is another item's it has lost.
func TestP1501StealWhileTheRingGrows(t *testing.T) {
	for steps := range 4 {
		d := of(t, 1, 2)
		begin(t, d, 1, api.DSteal, 0)
		for range steps {
			wantStep(t, d, 1, api.DGoes, 0)
		}
		for k := 3; k < 40; k++ {
			wantCall(t, d, 0, api.DPush, k, 4, api.DDone, 0)
		}
		for range 3 - steps {
			wantStep(t, d, 1, api.DGoes, 0)
		}
		wantStep(t, d, 1, api.DItem, 1)
	}
	for _, steps := range []int{1, 2, 3} {
		d := of(t, 1, 2)
		begin(t, d, 1, api.DSteal, 0)
		for range steps {
			wantStep(t, d, 1, api.DGoes, 0)
		}
		for k := range 40 {
			wantCall(t, d, 2, api.DSteal, 0, 4, api.DItem, k+1)
			wantCall(t, d, 0, api.DPush, k+3, 4, api.DDone, 0)
		}
		for range 3 - steps {
			wantStep(t, d, 1, api.DGoes, 0)
		}
		wantStep(t, d, 1, api.DLost, 0)
		wantItems(t, "P1501: round the ring", d, 41, 42)
	}
}

// The ring grows at its second step while items are taken from it, wherever top is.
func TestP1501RingGrows(t *testing.T) {
	for first := range 20 { // so far is top when the ring grows
		d := deque.New()
		for k := range first {
			wantCall(t, d, 0, api.DPush, k, 4, api.DDone, 0)
			wantCall(t, d, 1, api.DSteal, 0, 4, api.DItem, k)
		}
		var want []int
		for k := range 40 {
			begin(t, d, 0, api.DPush, 100+k)
			for range 3 {
				wantStep(t, d, 0, api.DGoes, 0)
				wantItems(t, "P1501: while it grows", d, want...)
			}
			wantStep(t, d, 0, api.DDone, 0)
			want = append(want, 100+k)
			wantItems(t, "P1501: grown", d, want...)
		}
		for k := range 20 {
			wantCall(t, d, 1, api.DSteal, 0, 4, api.DItem, 100+k)
		}
		for k := 19; k > 0; k-- {
			wantCall(t, d, 0, api.DPop, 0, 3, api.DItem, 120+k)
		}
		wantCall(t, d, 0, api.DPop, 0, 5, api.DItem, 120)
		wantItems(t, "P1501: all taken", d)
	}
}

// As many items as a ring has places at most stand side by side. The steps let more be pushed, too: then the ring goes round, and the new one stands over the first.
func TestP1501RingOfTheMost(t *testing.T) {
	d := deque.New()
	push := func(k int) {
		d.Begin(0, api.DPush, k)
		for d.Busy(0) {
			d.Step(0)
		}
	}
	for k := range 65536 {
		push(k)
	}
	l := d.Items()
	if len(l) != 65536 {
		t.Fatalf("P1501: %d items", len(l))
	}
	for k, v := range l {
		if v != k {
			t.Fatalf("P1501: %d at %d", v, k)
		}
	}
	push(65536)
	l = d.Items()
	if len(l) != 65537 || l[0] != 65536 || l[1] != 1 || l[65535] != 65535 || l[65536] != 65536 {
		t.Errorf("P1501: one more than the most: %d items", len(l))
	}
	wantCall(t, d, 0, api.DPop, 0, 3, api.DItem, 65536)
	wantCall(t, d, 1, api.DSteal, 0, 4, api.DItem, 65536)
	wantCall(t, d, 1, api.DSteal, 0, 4, api.DItem, 1)
	wantCall(t, d, 0, api.DPop, 0, 3, api.DItem, 65535)
}

func TestP1503ItemsIsNewMemory(t *testing.T) {
	d := of(t, 5, 6, 7)
	l, m := d.Items(), d.Items()
	l[0], l[2] = 50, 70
	_ = append(l[:1], 60, 60)
	if !slices.Equal(m, []int{5, 6, 7}) {
		t.Errorf("P1503: another answer is changed: %v", m)
	}
	wantItems(t, "P1503: the row", d, 5, 6, 7)
	wantCall(t, d, 0, api.DPop, 0, 3, api.DItem, 7)
	wantCall(t, d, 0, api.DPush, 8, 4, api.DDone, 0)
	if !slices.Equal(m, []int{5, 6, 7}) {
		t.Errorf("P1503: an earlier answer is changed: %v", m)
	}
}

func TestP1503TwoDeques(t *testing.T) {
	a, b := of(t, 1, 2), of(t, 1, 2)
	begin(t, a, 0, api.DPush, 3)
	begin(t, a, 5, api.DSteal, 0)
	wantIdle(t, "P1503: b", b)
	begin(t, b, 0, api.DPop, 0)
	for range 3 {
		wantStep(t, a, 0, api.DGoes, 0)
		wantStep(t, a, 5, api.DGoes, 0)
	}
	wantItems(t, "P1503: b", b, 1, 2)
	wantStep(t, b, 0, api.DGoes, 0)
	wantStep(t, b, 0, api.DGoes, 0)
	wantStep(t, b, 0, api.DItem, 2)
	wantItems(t, "P1503: a", a, 1, 2)
	wantStep(t, a, 0, api.DDone, 0)
	wantStep(t, a, 5, api.DItem, 1)
	wantItems(t, "P1503: a", a, 2, 3)
	wantItems(t, "P1503: b", b, 1)
}

// A Deque that New did not make is promised nothing but that no call panics.
func TestP1501DequeOfNone(t *testing.T) {
	var d deque.Deque
	wantItems(t, "P1501: of none", &d)
	wantCall(t, &d, 0, api.DPop, 0, 2, api.DEmpty, 0)
	wantCall(t, &d, 1, api.DSteal, 0, 2, api.DEmpty, 0)
	for k := range 9 {
		wantCall(t, &d, 0, api.DPush, k, 4, api.DDone, 0)
	}
	wantItems(t, "P1501: of none", &d, 0, 1, 2, 3, 4, 5, 6, 7, 8)
}
