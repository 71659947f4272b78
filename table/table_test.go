package table_test

import (
	"fmt"
	"math"
	"math/rand"
	"slices"
	"strings"
	"sync"
	"testing"
	"unsafe"

	"gleaner/api"
	"gleaner/table"
)

// longest is a name than which none is longer.
const longest = api.ID("\x0f\x0e\x0d\x0c\x0b\x0a\x09\x08\x07\x06\x05\x04")

// nobody is a name that the tests never add.
const nobody = api.ID("\x0e\x0e")

// badNames are names that no task has.
func badNames() []api.ID {
	l := []api.ID{"r", "r2", "0", " ", "\x10", "\xff", "\x00\x10", "\x10\x00", longest + "\x00", longest[:11] + "\x10", api.ID(strings.Repeat("\x00", 13)), api.ID(strings.Repeat("\x01", 100000)), "\u0100"}
	for b := 16; b < 256; b++ {
		l = append(l, api.ID([]byte{byte(b)}), api.ID([]byte{1, byte(b), 2}))
	}
	return l
}

// of answers a table with room for 20 that has these, all ready.
func of(t *testing.T, l ...api.ID) *table.Table {
	t.Helper()
	x := table.New(20)
	adds(t, x, l...)
	return x
}

func adds(t *testing.T, x *table.Table, l ...api.ID) {
	t.Helper()
	for _, id := range l {
		if e := x.Add(id); e != api.OK {
			t.Fatalf("P1601: Add(%q): %d", id, e)
		}
	}
}

// nexts asks that just these go on, one behind the other.
func nexts(t *testing.T, x *table.Table, l ...api.ID) {
	t.Helper()
	for _, want := range l {
		if id, ok := x.Next(); id != want || !ok {
			t.Fatalf("P1601: Next: %q %v, not %q", id, ok, want)
		}
	}
}

func steals(t *testing.T, x *table.Table, l ...api.ID) {
	t.Helper()
	for _, want := range l {
		if id, ok := x.Steal(); id != want || !ok {
			t.Fatalf("P1601: Steal: %q %v, not %q", id, ok, want)
		}
	}
}

// wakes asks that on wakes just these.
func wakes(t *testing.T, x *table.Table, on []api.ID, want ...api.ID) {
	t.Helper()
	if got := x.Wake(on...); !slices.Equal(got, want) {
		t.Fatalf("P1601: Wake(%q): %q, not %q", on, got, want)
	}
}

// did asks that a call answered true.
func did(t *testing.T, ok bool) {
	t.Helper()
	if !ok {
		t.Fatal("P1601: false")
	}
}

// did not: a call answered false.
func didNot(t *testing.T, ok bool) {
	t.Helper()
	if ok {
		t.Fatal("P1601: true, and there is none such")
	}
}

// tell tells all that a table answers without being changed.
func tell(x *table.Table) string {
	return fmt.Sprintf("ready %q going %q parked %q len %d", x.Ready(), x.Going(), x.Parked(), x.Len())
}

// has asks for just these rows.
func has(t *testing.T, x *table.Table, ready, going, parked []api.ID) {
	t.Helper()
	want := fmt.Sprintf("ready %q going %q parked %q len %d", ready, going, parked, len(ready)+len(going)+len(parked))
	if got := tell(x); got != want {
		t.Fatalf("P1602: %s, not %s", got, want)
	}
}

// ids is a row of names, so that they can be written short.
func ids(l ...api.ID) []api.ID { return l }

func TestP1601Example(t *testing.T) {
	x := table.New(2)
	adds(t, x, "\x0a", "\x0b")
	nexts(t, x, "\x0b")
	steals(t, x, "\x0a")
	has(t, x, nil, ids("\x0b"), nil)
}

func TestP1601NothingThere(t *testing.T) {
	for _, x := range []*table.Table{table.New(3), table.New(0), {}} {
		for range 2 {
			if id, ok := x.Next(); id != "" || ok {
				t.Errorf("P1601: Next of none: %q %v", id, ok)
			}
			if id, ok := x.Steal(); id != "" || ok {
				t.Errorf("P1601: Steal of none: %q %v", id, ok)
			}
			didNot(t, x.Back(""))
			didNot(t, x.Park("", ""))
			didNot(t, x.End(""))
			wakes(t, x, ids("", "\x01"))
			has(t, x, nil, nil, nil)
		}
	}
}

func TestP1601Most(t *testing.T) {
	for _, max := range []int{math.MinInt, math.MinInt + 1, math.MinInt32, -2, -1, 0, 1, 2, 3, 15, 16} {
		x := table.New(max)
		room := 1
		if max > 1 {
			room = max
		}
		for k := range room {
			adds(t, x, api.ID([]byte{byte(k)}))
		}
		for range 3 {
			if e := x.Add(nobody); e != api.ErrFull {
				t.Fatalf("P1601: Add, %d being there of %d: %d", room, max, e)
			}
		}
		if x.Len() != room {
			t.Errorf("P1602: Len %d of %d", x.Len(), max)
		}
	}
	for _, max := range []int{500, 1 << 31, 1 << 40, math.MaxInt - 1, math.MaxInt} {
		x := table.New(max)
		for k := range 500 {
			adds(t, x, api.ID([]byte{byte(k / 256), byte(k / 16 % 16), byte(k % 16)}))
		}
		if e := x.Add(""); (e == api.ErrFull) != (max == 500) || e != api.ErrFull && e != api.OK {
			t.Errorf("P1601: Add, 500 being there of %d: %d", max, e)
		}
	}
}

// A table that New did not make is as one of New(0).
func TestP1601TableWithoutNew(t *testing.T) {
	var x table.Table
	adds(t, &x, "\x01")
	if e := x.Add("\x02"); e != api.ErrFull {
		t.Errorf("P1601: Add: %d", e)
	}
	nexts(t, &x, "\x01")
	did(t, x.Park("\x01", "\x02"))
	wakes(t, &x, ids("\x02"), "\x01")
	steals(t, &x, "\x01")
	has(t, &x, nil, nil, nil)
}

// In whichever row tasks are, they take up room; only those that are there no more give it back.
func TestP1601RoomInEachRow(t *testing.T) {
	x := table.New(3)
	full := func(want api.Errno) {
		t.Helper()
		if e := x.Add(nobody); e != want {
			t.Fatalf("P1601: Add to %s: %d, not %d", tell(x), e, want)
		}
	}
	adds(t, x, "\x01", "\x02", "\x03")
	full(api.ErrFull)
	nexts(t, x, "\x03", "\x02")
	full(api.ErrFull)
	did(t, x.Park("\x03", "\x09"))
	full(api.ErrFull)
	did(t, x.Back("\x02"))
	full(api.ErrFull)
	wakes(t, x, ids("\x09"), "\x03")
	full(api.ErrFull)
	steals(t, x, "\x01")
	full(api.OK)
	full(api.ErrArg) // it is there by now: that is told ahead of there being no room
	nexts(t, x, nobody)
	did(t, x.End(nobody))
	full(api.OK)
	has(t, x, ids("\x02", "\x03", nobody), nil, nil)
}

func TestP1601AddOfWrongNames(t *testing.T) {
	x := of(t, "\x01")
	was := tell(x)
	full := table.New(1)
	adds(t, full, "\x01")
	for _, id := range badNames() {
		for _, x := range []*table.Table{x, full} {
			if e := x.Add(id); e != api.ErrArg {
				t.Errorf("P1601: Add(%q): %d", id, e)
			}
			if tell(x) != was {
				t.Fatalf("P1601: Add(%q) changed the table: %s", id, tell(x))
			}
		}
	}
}

func TestP1601AddOfNamesThatAreThere(t *testing.T) {
	x := table.New(4)
	adds(t, x, "\x01", "", "\x03", longest)
	nexts(t, x, longest, "\x03")
	did(t, x.Park("\x03", nobody))
	was := tell(x)
	for _, id := range ids("\x01", "", "\x03", longest) { // ready, ready, parked, going: ErrArg, though there is no room
		if e := x.Add(id); e != api.ErrArg {
			t.Errorf("P1601: Add(%q), which is there: %d", id, e)
		}
	}
	if e := x.Add(nobody); e != api.ErrFull { // what is waited for is not there
		t.Errorf("P1601: Add of what is waited for: %d", e)
	}
	if tell(x) != was {
		t.Errorf("P1601: Add that is refused changed the table: %s", tell(x))
	}
}

func TestP1601AddOnceMore(t *testing.T) {
	x := of(t, "\x01", "\x02", "\x03")
	steals(t, x, "\x01")
	nexts(t, x, "\x03")
	did(t, x.End("\x03"))
	adds(t, x, "\x01", "\x03")
	has(t, x, ids("\x02", "\x01", "\x03"), nil, nil)
	nexts(t, x, "\x03", "\x01", "\x02")
}

func TestP1601AddOfEachName(t *testing.T) {
	var l []api.ID
	for n := range 13 {
		l = append(l, longest[:n])
		for b := range 16 {
			if n > 0 && longest[n-1] != byte(b) {
				l = append(l, longest[:n-1]+api.ID([]byte{byte(b)}))
			}
		}
	}
	x := table.New(len(l))
	adds(t, x, l...)
	has(t, x, l, nil, nil)
	slices.Reverse(l)
	nexts(t, x, l...)
	slices.Sort(l)
	has(t, x, nil, l, nil)
}

func TestP1601NextAndStealTakeFromBothEnds(t *testing.T) {
	x := of(t, "\x05", "\x01", "\x04", "\x02", "\x03")
	nexts(t, x, "\x03")
	steals(t, x, "\x05")
	nexts(t, x, "\x02")
	steals(t, x, "\x01", "\x04")
	if id, ok := x.Steal(); id != "" || ok { // those that go on are not stolen
		t.Errorf("P1601: Steal, where none is ready: %q %v", id, ok)
	}
	if id, ok := x.Next(); id != "" || ok {
		t.Errorf("P1601: Next, where none is ready: %q %v", id, ok)
	}
	has(t, x, nil, ids("\x02", "\x03"), nil)
	adds(t, x, "\x01", "\x05")
	has(t, x, ids("\x01", "\x05"), ids("\x02", "\x03"), nil)
}

func TestP1601TheFirstTaskIsOneToo(t *testing.T) {
	x := of(t, "")
	nexts(t, x, "")
	did(t, x.Back(""))
	nexts(t, x, "")
	did(t, x.Park("", "\x00"))
	has(t, x, nil, nil, ids(""))
	wakes(t, x, ids("\x00"), "")
	steals(t, x, "")
	adds(t, x, "", "\x01")
	nexts(t, x, "\x01")
	did(t, x.Park("\x01", ""))
	wakes(t, x, ids(""), "\x01")
	has(t, x, ids("", "\x01"), nil, nil)
}

func TestP1601Back(t *testing.T) {
	x := of(t, "\x01", "\x02", "\x03")
	nexts(t, x, "\x03", "\x02")
	did(t, x.Back("\x03"))
	has(t, x, ids("\x01", "\x03"), ids("\x02"), nil)
	didNot(t, x.Back("\x03"))
	did(t, x.Back("\x02"))
	has(t, x, ids("\x01", "\x03", "\x02"), nil, nil)
	nexts(t, x, "\x02", "\x03", "\x01")
}

func TestP1601ParkAndWake(t *testing.T) {
	x := of(t, "\x01", "\x02", "\x03", "\x04", "\x05", "\x06")
	nexts(t, x, "\x06", "\x05", "\x04", "\x03", "\x02")
	for _, id := range ids("\x04", "\x06", "\x02") {
		did(t, x.Park(id, nobody))
	}
	did(t, x.Park("\x05", "\x07"))
	has(t, x, ids("\x01"), ids("\x03"), ids("\x02", "\x04", "\x05", "\x06"))
	wakes(t, x, nil)
	wakes(t, x, ids())
	wakes(t, x, ids("\x01", "\x02", "\x03", "\x04", "\x05", "\x06", "")) // nobody is parked on these
	wakes(t, x, badNames())
	wakes(t, x, ids(nobody), "\x02", "\x04", "\x06")
	has(t, x, ids("\x01", "\x02", "\x04", "\x06"), ids("\x03"), ids("\x05"))
	wakes(t, x, ids(nobody)) // once
	wakes(t, x, ids("\x07"), "\x05")
	has(t, x, ids("\x01", "\x02", "\x04", "\x06", "\x05"), ids("\x03"), nil)
	nexts(t, x, "\x05", "\x06", "\x04", "\x02", "\x01")
}

// By rising names through all of those that are woken, not for each that they waited for; and each once.
func TestP1601WakeOfSeveral(t *testing.T) {
	for _, on := range [][]api.ID{
		{"\x08", "\x09"}, {"\x09", "\x08"}, {"\x09", "\x09", "\x08", "\x08", "\x09"}, {nobody, "\x09", "\x10", "\x08", "\x01"},
	} {
		x := of(t, "\x01", "\x02", "\x01\x05", "\x03", "\x04")
		nexts(t, x, "\x04", "\x03", "\x01\x05", "\x02", "\x01")
		did(t, x.Park("\x03", "\x08"))
		did(t, x.Park("\x01", "\x08"))
		did(t, x.Park("\x02", "\x09"))
		did(t, x.Park("\x01\x05", "\x09"))
		did(t, x.Park("\x04", "\x07"))
		was := slices.Clone(on)
		wakes(t, x, on, "\x01", "\x01\x05", "\x02", "\x03")
		if !slices.Equal(on, was) {
			t.Errorf("P1601: Wake changed what was handed in: %q", on)
		}
		has(t, x, ids("\x01", "\x01\x05", "\x02", "\x03"), nil, ids("\x04"))
	}
}

// What a task is parked on may be anything Valid: one in any row, none that is there, the task.
func TestP1601ParkOnAnything(t *testing.T) {
	x := of(t, "\x01", "\x02", "\x03", "\x04", "\x05", "\x06")
	nexts(t, x, "\x06", "\x05", "\x04", "\x03", "\x02")
	did(t, x.Park("\x02", "\x01"))  // ready
	did(t, x.Park("\x03", "\x04"))  // going
	did(t, x.Park("\x04", "\x03"))  // parked
	did(t, x.Park("\x05", longest)) // not there
	did(t, x.Park("\x06", "\x06"))  // itself
	has(t, x, ids("\x01"), nil, ids("\x02", "\x03", "\x04", "\x05", "\x06"))
	nexts(t, x, "\x01")
	did(t, x.End("\x01"))
	has(t, x, nil, nil, ids("\x02", "\x03", "\x04", "\x05", "\x06")) // an end wakes nobody
	wakes(t, x, ids("\x01", "\x03", "\x06"), "\x02", "\x04", "\x06")
	wakes(t, x, ids(longest), "\x05")
	wakes(t, x, ids("\x04"), "\x03")
}

// A task that was woken and parked once more waits for the later one alone.
func TestP1601ParkedAgain(t *testing.T) {
	x := of(t, "\x01")
	for k := range 10 {
		nexts(t, x, "\x01")
		on := api.ID([]byte{byte(k % 3)})
		did(t, x.Park("\x01", on))
		wakes(t, x, ids(api.ID([]byte{byte((k + 1) % 3)}), api.ID([]byte{byte((k + 2) % 3)})))
		has(t, x, nil, nil, ids("\x01"))
		wakes(t, x, ids(on), "\x01")
	}
}

func TestP1601ParkOnWrongNames(t *testing.T) {
	x := of(t, "\x01", "\x02")
	nexts(t, x, "\x02")
	was := tell(x)
	for _, on := range badNames() {
		for _, id := range ids("\x02", "\x01", nobody, on) {
			if x.Park(id, on) {
				t.Errorf("P1601: Park(%q, %q)", id, on)
			}
			if tell(x) != was {
				t.Fatalf("P1601: Park(%q, %q) changed the table: %s", id, on, tell(x))
			}
		}
	}
	did(t, x.Park("\x02", "\x01"))
}

// Of each call that is of a going task: tasks in other rows, ones that are there no more, and names that none has.
func TestP1601NoneSuch(t *testing.T) {
	x := of(t, "\x01", "\x02", "\x03", "\x04", "\x05")
	steals(t, x, "\x01")
	nexts(t, x, "\x05", "\x04", "\x03")
	did(t, x.End("\x05"))
	did(t, x.Park("\x04", "\x02"))
	was := tell(x)
	for _, id := range append(badNames(), "", "\x01", "\x02", "\x04", "\x05", nobody, longest, "\x03\x00", "\x03\x03") {
		if x.Back(id) || x.Park(id, "\x02") || x.Park(id, id) || x.End(id) {
			t.Errorf("P1601: %q is not going, and something was done with it", id)
		}
		if tell(x) != was {
			t.Fatalf("P1601: of %q: %s, not %s", id, tell(x), was)
		}
	}
	for _, call := range []func(api.ID) bool{x.Back, x.End} {
		did(t, call("\x03"))
		didNot(t, call("\x03"))
		x.Next()
	}
}

func TestP1601EndAndStealOfAll(t *testing.T) {
	x := of(t, "\x01", "\x02", "\x03")
	nexts(t, x, "\x03", "\x02")
	did(t, x.End("\x02"))
	has(t, x, ids("\x01"), ids("\x03"), nil)
	steals(t, x, "\x01")
	did(t, x.End("\x03"))
	has(t, x, nil, nil, nil)
	adds(t, x, "\x02")
	has(t, x, ids("\x02"), nil, nil)
}

// Tables with many tasks do each call in a time that is not theirs as a whole: else this would take hours.
func TestP1601OfMany(t *testing.T) {
	const many = 1 << 18
	name := func(k int) api.ID {
		var b [5]byte
		for at := range b {
			b[at] = byte(k >> (4 * at) & 15)
		}
		return api.ID(b[:])
	}
	x := table.New(many)
	for k := range many {
		adds(t, x, name(k))
	}
	if e := x.Add(nobody); e != api.ErrFull || x.Len() != many {
		t.Fatalf("P1601: Add to %d: %d", x.Len(), e)
	}
	for k := range many / 2 {
		steals(t, x, name(k))
	}
	for k := many - 1; k >= many/2; k-- {
		nexts(t, x, name(k))
		if k%2 == 0 {
			did(t, x.Back(name(k)))
			nexts(t, x, name(k))
		}
		did(t, x.Park(name(k), name(k/16)))
	}
	for k := many / 32; k < many/16; k++ {
		if l := x.Wake(name(k)); len(l) != 16 || !slices.IsSorted(l) {
			t.Fatalf("P1601: Wake: %q", l)
		}
		for range 16 {
			id, _ := x.Next()
			did(t, x.End(id))
		}
	}
	has(t, x, nil, nil, nil)
}

func TestP1602Rows(t *testing.T) {
	x := of(t, "\x03", "\x0a", "\x01", "\x01\x00", "", "\x09", "\x02", "\x0f")
	has(t, x, ids("\x03", "\x0a", "\x01", "\x01\x00", "", "\x09", "\x02", "\x0f"), nil, nil)
	nexts(t, x, "\x0f", "\x02", "\x09", "", "\x01\x00", "\x01")
	has(t, x, ids("\x03", "\x0a"), ids("", "\x01", "\x01\x00", "\x02", "\x09", "\x0f"), nil)
	for k, id := range ids("\x09", "\x01\x00", "", "\x0f") {
		did(t, x.Park(id, api.ID([]byte{byte(9 - k)})))
	}
	has(t, x, ids("\x03", "\x0a"), ids("\x01", "\x02"), ids("", "\x01\x00", "\x09", "\x0f"))
	for range 3 {
		has(t, x, ids("\x03", "\x0a"), ids("\x01", "\x02"), ids("", "\x01\x00", "\x09", "\x0f")) // asking changes nothing
	}
}

func TestP1602NewMemory(t *testing.T) {
	x := of(t, "\x01", "\x02", "\x03", "\x04", "\x05", "\x06")
	nexts(t, x, "\x06", "\x05", "\x04", "\x03")
	did(t, x.Park("\x06", "\x07"))
	did(t, x.Park("\x05", "\x07"))
	was := tell(x)
	for _, list := range []func() []api.ID{x.Ready, x.Going, x.Parked} {
		l, again := list(), list()
		want := slices.Clone(l)
		for k := range l {
			l[k] = "?"
		}
		_ = append(l, "!")
		if !slices.Equal(again, want) || tell(x) != was {
			t.Errorf("P1602: what was answered is shared: %q, %s", again, tell(x))
		}
	}
	l := x.Wake("\x07")
	was = tell(x)
	l[0], l[1] = "?", "?"
	_ = append(l, "!")
	if tell(x) != was {
		t.Errorf("P1602: what Wake answered is shared: %s", tell(x))
	}
	before := x.Ready()
	nexts(t, x, "\x06", "\x05")
	steals(t, x, "\x01")
	adds(t, x, "\x08")
	if !slices.Equal(before, ids("\x01", "\x02", "\x05", "\x06")) {
		t.Errorf("P1602: what was answered has changed: %q", before)
	}
}

func TestP1602ListsHandedIn(t *testing.T) {
	x := of(t, "\x01", "\x02")
	nexts(t, x, "\x02", "\x01")
	did(t, x.Park("\x01", "\x05"))
	did(t, x.Park("\x02", "\x06"))
	l := append(make([]api.ID, 0, 9), "\x07", "\x06", "\x05", "\x06")
	spare := l[:9]
	wakes(t, x, l, "\x01", "\x02")
	if !slices.Equal(spare, ids("\x07", "\x06", "\x05", "\x06", "", "", "", "", "")) {
		t.Errorf("P1602: what was handed in has changed: %q", spare)
	}
	clear(spare)
	has(t, x, ids("\x01", "\x02"), nil, nil)
}

// text is a name whose bytes the test can change later, as no program should.
func text(b []byte) api.ID { return api.ID(unsafe.String(&b[0], len(b))) }

// Names that were handed in are not kept: not a byte of them.
func TestP1602NamesHandedIn(t *testing.T) {
	for _, call := range []string{"Add", "Back", "Park", "on"} {
		x := table.New(9)
		b, id := []byte{1, 2, 3}, api.ID("\x01\x02\x03")
		switch call {
		case "Add":
			adds(t, x, text(b))
		case "Back":
			adds(t, x, id)
			x.Next()
			did(t, x.Back(text(b)))
		case "Park":
			adds(t, x, id)
			x.Next()
			did(t, x.Park(text(b), "\x05"))
			b[0] = 9
			has(t, x, nil, nil, ids(id))
			wakes(t, x, ids("\x05"), id)
		case "on":
			adds(t, x, id)
			x.Next()
			did(t, x.Park(id, text(b)))
			b[0] = 9
			wakes(t, x, ids(id), id)
		}
		b[0] = 9
		has(t, x, ids(id), nil, nil)
		if e := x.Add(id); e != api.ErrArg {
			t.Errorf("P1602: Add behind %s: %d", call, e)
		}
		nexts(t, x, id)
		has(t, x, nil, ids(id), nil)
		did(t, x.End(id))
	}
}

// Names that are answered have memory of their own.
func TestP1602NamesAnswered(t *testing.T) {
	x := of(t, "\x01\x02", "\x03\x04", "\x05\x06", "\x07\x08")
	where := map[*byte]string{}
	look := func(call string, l ...api.ID) {
		t.Helper()
		for _, id := range l {
			p := unsafe.StringData(string(id))
			if was, ok := where[p]; ok {
				t.Errorf("P1602: %s and %s answer one memory", was, call)
			}
			where[p] = call
		}
	}
	next := func() api.ID {
		id, _ := x.Next()
		look("Next", id)
		return id
	}
	for range 2 {
		look("Ready", x.Ready()...)
	}
	did(t, x.Park(next(), "\x09"))
	did(t, x.Park(next(), "\x09"))
	did(t, x.Back(next()))
	next()
	for range 2 {
		look("Parked", x.Parked()...)
		look("Going", x.Going()...)
	}
	look("Wake", x.Wake("\x09")...)
	look("Ready", x.Ready()...)
	id, _ := x.Steal()
	look("Steal", id)
}

// spoil turns the bytes of names that were answered, as no program should.
func spoil(l ...api.ID) {
	for _, id := range l {
		*unsafe.StringData(string(id)) = 'x'
	}
}

// What is done to names that were answered is not done to the table's.
func TestP1602NamesAnsweredAreNotTheTables(t *testing.T) {
	x := of(t, "\x01", "\x02", "\x03")
	spoil(x.Ready()...)
	id, _ := x.Next()
	other, _ := x.Next()
	spoil(id, other)
	spoil(x.Going()...)
	has(t, x, ids("\x01"), ids("\x02", "\x03"), nil)
	did(t, x.Park("\x02", "\x05"))
	did(t, x.Park("\x03", "\x05"))
	spoil(x.Parked()...)
	has(t, x, ids("\x01"), nil, ids("\x02", "\x03"))
	spoil(x.Wake("\x05")...)
	id, _ = x.Steal()
	spoil(id)
	has(t, x, ids("\x02", "\x03"), nil, nil)
	adds(t, x, "\x01")
	nexts(t, x, "\x01", "\x03", "\x02")
}

func TestP1602TwoTables(t *testing.T) {
	x, y := table.New(2), table.New(2)
	adds(t, x, "\x01", "\x02")
	has(t, y, nil, nil, nil)
	adds(t, y, "\x02", "\x01")
	nexts(t, x, "\x02")
	nexts(t, y, "\x01")
	did(t, x.Park("\x02", "\x03"))
	did(t, y.Park("\x01", "\x03"))
	wakes(t, x, ids("\x03"), "\x02")
	has(t, x, ids("\x01", "\x02"), nil, nil)
	has(t, y, ids("\x02"), nil, ids("\x01"))
	steals(t, y, "\x02")
	did(t, x.Len() == 2 && y.Len() == 1)
	adds(t, y, "\x02")
	if e := x.Add("\x04"); e != api.ErrFull {
		t.Errorf("P1602: Add: %d", e)
	}
}

// play tells a table what the seed says, and tells all that it answers.
func play(x *table.Table, seed int64) string {
	r := rand.New(rand.NewSource(seed))
	var s strings.Builder
	for range 300 {
		id, on := someName(r), someName(r)
		switch r.Intn(8) {
		case 0, 1:
			fmt.Fprint(&s, x.Add(id))
		case 2, 3:
			got, ok := x.Next()
			fmt.Fprintf(&s, "%q %v", got, ok)
			fmt.Fprint(&s, x.Park(got, on))
		case 4:
			fmt.Fprintf(&s, "%q", x.Wake(id, on))
		case 5:
			got, ok := x.Steal()
			fmt.Fprintf(&s, "%q %v", got, ok)
		case 6:
			fmt.Fprint(&s, x.Back(id), x.End(on))
		}
		fmt.Fprintln(&s, tell(x))
	}
	return s.String()
}

func TestP1602EachTableByItself(t *testing.T) {
	var told [16]string
	var all sync.WaitGroup
	for k := range told {
		all.Go(func() { told[k] = play(table.New(8), int64(k/2)) })
	}
	all.Wait()
	for k := 0; k < len(told); k += 2 {
		if told[k] != told[k+1] {
			t.Errorf("P1602: two tables that were told the same answer two things:\n%s\n%s", told[k], told[k+1])
		}
	}
}
