package note_test

import (
	"bytes"
	"fmt"
	"math"
	"math/rand"
	"slices"
	"strings"
	"sync"
	"testing"
	"unsafe"

	"gleaner/api"
	"gleaner/note"
)

// thereAndBack asks that n is packed as the chapter says, and Clear of it is read again from that.
func thereAndBack(t *testing.T, n api.Note) {
	t.Helper()
	b, e := note.Pack(n)
	if e != api.OK || !bytes.Equal(b, slowPack(n)) {
		t.Fatalf("P1101: Pack: error %d, %v, not %v: %+v", e, b, slowPack(n), n)
	}
	if m, x := note.Read(b); x != api.OK || !same(m, slowClear(n)) {
		t.Fatalf("P1101: Read: error %d, %+v, not %+v", x, m, slowClear(n))
	}
}

// refused asks that Pack refuses n, and Read its bytes.
func refused(t *testing.T, n api.Note) {
	t.Helper()
	if b, e := note.Pack(n); e != api.ErrArg || len(b) > 0 {
		t.Errorf("P1101: Pack: error %d, %v: %+v", e, b, n)
	}
	unread(t, slowPack(n))
}

// unread asks that b are no note's bytes.
func unread(t *testing.T, b []byte) {
	t.Helper()
	if m, e := note.Read(b); e != api.ErrByte || !same(m, api.Note{}) {
		t.Errorf("P1101: Read(%v): error %d, %+v", b, e, m)
	}
}

// sameAsSlow holds Read against slowRead, and what it takes against Pack.
func sameAsSlow(t *testing.T, b []byte) api.Errno {
	t.Helper()
	want, is := slowRead(b)
	n, e := note.Read(b)
	if e != is || !same(n, want) {
		t.Fatalf("P1101: Read(%v): error %d, not %d; %+v, not %+v", b, e, is, n, want)
	}
	if e != api.OK {
		return e
	}
	if back, x := note.Pack(n); x != api.OK || !bytes.Equal(back, b) {
		t.Fatalf("P1101: Pack of Read(%v): error %d, %v", b, x, back)
	}
	return e
}

// forKinds asks of each Kind: if it has the part that turn turns, ask is called; else what turn does is of no weight.
func forKinds(t *testing.T, name string, turn func(n *api.Note), ask func(t *testing.T, n api.Note)) {
	t.Helper()
	for kind := 1; kind <= 10; kind++ {
		n := full(kind, turn)
		if slices.Contains(slowHas(kind), name) {
			ask(t, n)
		} else {
			thereAndBack(t, n)
		}
	}
}

func TestP1101Example(t *testing.T) {
	if b, e := note.Pack(api.Note{Kind: api.NoteBeat, Node: 3, Life: 1}); e != api.OK || !bytes.Equal(b, []byte{2, 6, 2}) {
		t.Errorf("P1101: a Beat of node 3, life 1: error %d, %v", e, b)
	}
	if n, e := note.Read([]byte{2, 6, 2}); e != api.OK || !same(n, api.Note{Kind: api.NoteBeat, Node: 3, Life: 1}) {
		t.Errorf("P1101: a Beat of node 3, life 1: error %d, %+v", e, n)
	}
}

func TestP1101BytesOfEachKind(t *testing.T) {
	for kind, want := range map[int][]byte{
		api.NoteBeat:  {2, 6, 140, 1},
		api.NoteView:  {4, 12, 6, 0, 2, 4, 160, 1, 30, 0},
		api.NoteAsk:   {6, 10, 6},
		api.NoteOffer: {8, 10, 140, 1, 4, 2, 15, 14, 6, 1, 18, 216, 4},
		api.NoteTake:  {10, 10, 140, 1, 6, 4, 2, 15},
		api.NoteDrop:  {12, 10, 140, 1, 6, 4, 2, 15},
		api.NoteEnd:   {14, 10, 6, 4, 2, 15, 50, 7},
		api.NoteValue: {16, 4, 2, 15, 50, 7},
		api.NoteWant:  {18, 6, 4, 2, 15},
		api.NoteSpawn: {20, 10, 6, 4, 2, 15, 14, 6, 1, 18, 216, 4},
	} {
		if b, e := note.Pack(full(kind)); e != api.OK || !bytes.Equal(b, want) {
			t.Errorf("P1101: Pack of kind %d: error %d, %v, not %v", kind, e, b, want)
		}
		if n, e := note.Read(want); e != api.OK || !same(n, slowClear(full(kind))) {
			t.Errorf("P1101: Read of kind %d: error %d, %+v", kind, e, n)
		}
	}
}

// What is cleared is not looked at: Clear keeps also what can't be.
func TestP1101Clear(t *testing.T) {
	absurd := func(kind int) api.Note {
		return api.Note{Kind: kind, Node: -7, Life: -8, Epoch: math.MinInt, ID: api.ID(strings.Repeat("\xff", 40)), Func: 99, Args: make([]int, 50), Result: api.Result{Err: 77, Value: 3}, View: api.View{Epoch: -2, Members: []api.Member{{Node: 99, Life: -1}, {Node: 5, Life: math.MaxInt}}}}
	}
	for kind := 1; kind <= 10; kind++ {
		for _, n := range []api.Note{full(kind), least(kind), most(kind), absurd(kind)} {
			c := note.Clear(n)
			if !same(c, slowClear(n)) {
				t.Errorf("P1101: Clear(%+v): %+v", n, c)
			}
			if !same(note.Clear(c), c) {
				t.Errorf("P1101: Clear of %+v: %+v", c, note.Clear(c))
			}
		}
	}
	for _, kind := range noKinds {
		for _, n := range []api.Note{full(kind), least(kind), most(kind), absurd(kind)} {
			if c := note.Clear(n); !same(c, api.Note{}) {
				t.Errorf("P1101: Clear of kind %d: %+v", kind, c)
			}
		}
	}
}

func TestP1101ClearOfEachPart(t *testing.T) {
	for kind := 1; kind <= 10; kind++ {
		for _, name := range parts {
			n := least(kind)
			put(&n, full(kind), name)
			want := least(kind)
			if slices.Contains(slowHas(kind), name) {
				want = n
			}
			if c := note.Clear(n); !same(c, want) {
				t.Errorf("P1101: Clear of kind %d with %s alone: %+v", kind, name, c)
			}
		}
	}
}

func TestP1101NoKind(t *testing.T) {
	for _, kind := range noKinds {
		for _, n := range []api.Note{full(kind), least(kind), most(kind)} {
			refused(t, n)
			unread(t, append(slowPack(n), 6, 2))
		}
	}
}

func TestP1101ThereAndBack(t *testing.T) {
	for kind := 1; kind <= 10; kind++ {
		thereAndBack(t, full(kind))
		thereAndBack(t, least(kind))
		thereAndBack(t, most(kind))
	}
	r := rand.New(rand.NewSource(1101))
	for range 20000 {
		n := someNote(r)
		if c := note.Clear(n); !same(c, slowClear(n)) {
			t.Fatalf("P1101: Clear(%+v): %+v", n, c)
		}
		thereAndBack(t, n)
		thereAndBack(t, note.Clear(n))
	}
}

// What a Kind has not may be anything.
func TestP1101OtherPartsAreNotLookedAt(t *testing.T) {
	wrong := api.Note{Node: 16, Life: -1, Epoch: 1 << 31, ID: "\x10", Func: 32, Args: make([]int, 9), Result: api.Result{Err: 1}, View: api.View{Epoch: -1, Members: make([]api.Member, 17)}}
	for kind := 1; kind <= 10; kind++ {
		n := wrong
		n.Kind = kind
		for _, name := range slowHas(kind) {
			put(&n, full(kind), name)
		}
		thereAndBack(t, n)
		for _, name := range slowHas(kind) {
			m := n
			put(&m, wrong, name)
			refused(t, m)
		}
	}
}

func TestP1101Numbers(t *testing.T) {
	for _, x := range []struct {
		name string
		of   func(n *api.Note) *int
		most int
	}{
		{"Node", func(n *api.Note) *int { return &n.Node }, 15},
		{"Life", func(n *api.Note) *int { return &n.Life }, greatest},
		{"Epoch", func(n *api.Note) *int { return &n.Epoch }, greatest},
		{"Func", func(n *api.Note) *int { return &n.Func }, 31},
		{"View", func(n *api.Note) *int { return &n.View.Epoch }, greatest},
		{"View", func(n *api.Note) *int { return &n.View.Members[0].Life }, greatest},
		{"View", func(n *api.Note) *int { return &n.View.Members[2].Life }, greatest},
	} {
		for _, n := range []int{-1, -2, math.MinInt, math.MinInt32, -1 << 32, -x.most, x.most + 1, x.most + 2, 1 << 31, 1 << 32, 1<<32 + 1, 1 << 62, math.MaxInt} {
			forKinds(t, x.name, func(m *api.Note) { *x.of(m) = n }, refused)
		}
		for bit := range 31 {
			for _, n := range []int{1 << bit, 1<<bit - 1, greatest - 1<<bit, greatest - 1<<bit + 1} {
				forKinds(t, x.name, func(m *api.Note) { *x.of(m) = min(n, x.most) }, thereAndBack)
			}
		}
	}
}

func TestP1101IDs(t *testing.T) {
	for long := range 20 {
		ask := refused
		if long <= 12 {
			ask = thereAndBack
		}
		for _, digit := range []string{"\x00", "\x07", "\x0f"} {
			forKinds(t, "ID", func(n *api.Note) { n.ID = api.ID(strings.Repeat(digit, long)) }, ask)
		}
	}
	for x := range 256 {
		ask := refused
		if x < 16 {
			ask = thereAndBack
		}
		for _, id := range []string{string([]byte{byte(x)}), string([]byte{byte(x), 1, 2}), strings.Repeat("\x03", 11) + string([]byte{byte(x)})} {
			forKinds(t, "ID", func(n *api.Note) { n.ID = api.ID(id) }, ask)
		}
	}
	forKinds(t, "ID", func(n *api.Note) { n.ID = api.ID(strings.Repeat("\x01", 5000)) }, refused)
}

func TestP1101Args(t *testing.T) {
	values := []int{0, -1, 63, 64, -64, -65, math.MaxInt, math.MinInt, 1 << 31}
	for many := range 12 {
		ask := refused
		if many <= 8 {
			ask = thereAndBack
		}
		for _, v := range values {
			forKinds(t, "Args", func(n *api.Note) { n.Args = slices.Repeat([]int{v}, many) }, ask)
		}
	}
	forKinds(t, "Args", func(n *api.Note) { n.Args = nil }, thereAndBack)
	forKinds(t, "Args", func(n *api.Note) { n.Args = []int{} }, thereAndBack)
	forKinds(t, "Args", func(n *api.Note) { n.Args = values[:8] }, thereAndBack)
	forKinds(t, "Args", func(n *api.Note) { n.Args = make([]int, 100000) }, refused)
}

func TestP1101Results(t *testing.T) {
	errs := []api.Errno{math.MinInt, -1 << 32, 1 << 32, 1<<32 + 20, 1<<32 + 25, math.MaxInt}
	for e := api.Errno(-30); e < 300; e++ {
		errs = append(errs, e)
	}
	for _, e := range errs {
		for _, v := range []int{0, 1, -1, math.MaxInt, math.MinInt, 1 << 32} {
			ask := refused
			if e == api.OK || e == api.ErrFail || v == 0 && e >= api.ErrDiv && e <= api.ErrFail {
				ask = thereAndBack
			}
			forKinds(t, "Result", func(n *api.Note) { n.Result = api.Result{Err: e, Value: v} }, ask)
		}
	}
}

// members makes a list of them of these nodes, their lives of their own.
func members(nodes ...int) []api.Member {
	var out []api.Member
	for k, x := range nodes {
		out = append(out, api.Member{Node: x, Life: 5 * k})
	}
	return out
}

func TestP1101Views(t *testing.T) {
	all := []int{0, 1, 2, 3, 4, 5, 6, 7, 8, 9, 10, 11, 12, 13, 14, 15}
	for _, x := range []struct {
		nodes []int
		ask   func(t *testing.T, n api.Note)
	}{
		{nil, thereAndBack},
		{[]int{0}, thereAndBack},
		{[]int{15}, thereAndBack},
		{[]int{3, 4}, thereAndBack},
		{[]int{0, 15}, thereAndBack},
		{all, thereAndBack},
		{all[1:], thereAndBack},
		{[]int{-1}, refused},
		{[]int{16}, refused},
		{[]int{-1, 0}, refused},
		{[]int{0, 16}, refused},
		{[]int{0, 1 << 32}, refused},
		{[]int{math.MinInt, 3}, refused},
		{[]int{3, math.MaxInt}, refused},
		{[]int{0, 0}, refused},
		{[]int{4, 4}, refused},
		{[]int{4, 3}, refused},
		{[]int{0, 2, 1, 3}, refused},
		{[]int{0, 5, 5, 6}, refused},
		{[]int{0, 5, 6, 2}, refused},
		{append(slices.Clone(all), 15), refused},
		{append(slices.Clone(all), 16), refused},
		{append([]int{0}, all...), refused},
		{append([]int{-1}, all...), refused},
		{make([]int, 17), refused},
		{make([]int, 1000), refused},
	} {
		forKinds(t, "View", func(n *api.Note) { n.View.Members = members(x.nodes...) }, x.ask)
	}
	for at := range 16 {
		for _, life := range []int{-1, 1 << 31, math.MinInt, math.MaxInt} {
			forKinds(t, "View", func(n *api.Note) { n.View.Members = members(all...); n.View.Members[at].Life = life }, refused)
		}
		forKinds(t, "View", func(n *api.Note) { n.View.Members = members(all...); n.View.Members[at].Life = greatest }, thereAndBack)
	}
}

// All lists of up to two bytes, and those of three that begin with a Kind.
func TestP1101ReadOfFewBytes(t *testing.T) {
	unread(t, nil)
	unread(t, []byte{})
	good := 0
	ask := func(b ...byte) {
		if sameAsSlow(t, b) == api.OK {
			good++
		}
	}
	for x := range 1 << 8 {
		ask(byte(x))
	}
	for x := range 1 << 16 {
		ask(byte(x), byte(x>>8))
		for kind := 1; kind <= 10; kind++ {
			ask(byte(2*kind), byte(x), byte(x>>8))
		}
	}
	// Of three bytes: Beats of one byte's Lives, Asks of one byte's Epochs; a View and Wants without more.
	if want := 2*16*64 + 64 + 16; good != want {
		t.Errorf("P1101: %d of the lists are notes, not %d", good, want)
	}
}

func TestP1101ReadWholly(t *testing.T) {
	for kind := 1; kind <= 10; kind++ {
		for _, n := range []api.Note{full(kind), least(kind), most(kind)} {
			b := slowPack(n)
			for at := range b {
				unread(t, b[:at])
				sameAsSlow(t, b[at:])
				sameAsSlow(t, slices.Delete(slices.Clone(b), at, at+1))
			}
			for _, more := range [][]byte{{0}, {1}, {2}, {128}, {255}, b, make([]byte, 1000)} {
				unread(t, append(slices.Clone(b), more...))
			}
		}
	}
}

// At each byte of a note: numbers that might have fewer bytes, and such as are too long.
func TestP1101ReadOfOtherNumbers(t *testing.T) {
	for kind := 1; kind <= 10; kind++ {
		b := slowPack(full(kind))
		for at := range b { // within a number or a name, too: slowRead tells what becomes of it there
			end := at
			for b[end] >= 128 {
				end++
			}
			ahead, number, behind := b[:at], b[at:end+1], b[end+1:]
			last := len(number) - 1
			for _, other := range [][]byte{
				append(slices.Clone(number[:last]), number[last]|128, 0),
				append(slices.Clone(number[:last]), number[last]|128, 128, 0),
				append(bytes.Repeat([]byte{255}, 9), 2),
				append(bytes.Repeat([]byte{255}, 10), 1),
				append(bytes.Repeat([]byte{128}, 9), 2),
			} {
				sameAsSlow(t, slices.Concat(ahead, other, behind))
			}
		}
	}
	unread(t, []byte{130, 0, 6, 2})
	unread(t, []byte{2, 134, 0, 2})
	unread(t, []byte{2, 6, 130, 0})
	unread(t, []byte{18, 6, 132, 0, 2, 15})
	unread(t, []byte{4, 12, 130, 0, 0, 2})
}

// Numbers of things that can't be, with few and with many bytes behind them.
func TestP1101ReadOfCounts(t *testing.T) {
	for _, ahead := range [][]byte{ints(nil, 2, 6), ints(nil, 4, 5, 1, 0, 7), ints(nil, 10, 5, 3, 0, 7), ints(nil, 9, 3), ints(nil, 8)} {
		for _, n := range []int{-1, -2, math.MinInt, 17, 40, 1 << 20, 1 << 31, 1 << 32, 1<<32 + 1, 1 << 62, math.MaxInt} {
			for _, behind := range []int{0, 1, 2, 8, 16, 32, 100} {
				unread(t, append(ints(ahead, n), make([]byte, behind)...))
			}
		}
	}
	many := 1 << 20
	unread(t, append(ints(nil, 10, 5, 3, 0, 7, many), make([]byte, many)...))
	unread(t, append(ints(nil, 2, 6, many), make([]byte, 2*many)...))
	unread(t, append(ints(nil, 9, 3, many), make([]byte, many)...))
}

func TestP1101ReadOfSpoiledBytes(t *testing.T) {
	r := rand.New(rand.NewSource(11012))
	var seen [11]int
	bad := 0
	for range 100000 {
		b := spoiled(r, slowPack(someNote(r)))
		if sameAsSlow(t, b) == api.OK {
			seen[b[0]/2]++
		} else {
			bad++
		}
	}
	if bad < 10000 || slices.Min(seen[1:]) < 100 {
		t.Errorf("the bytes that were made are of too few kinds: %v, %d of none", seen, bad)
	}
}

// roomy is n with its lists in memory of their own, each with spare room that is filled with a mark.
func roomy(n api.Note) api.Note {
	n.Args = append(slices.Clone(n.Args), slices.Repeat([]int{77}, 20)...)[:len(n.Args)]
	n.View.Members = append(slices.Clone(n.View.Members), slices.Repeat([]api.Member{{Node: 77, Life: 77}}, 20)...)[:len(n.View.Members)]
	return n
}

// shown tells all of a note, the spare room of its lists too.
func shown(n api.Note) string {
	return fmt.Sprint(n, n.Args[:cap(n.Args)], n.View.Members[:cap(n.View.Members)])
}

// filled writes to all the memory that the lists of n have.
func filled(n api.Note) {
	for k := range n.Args[:cap(n.Args)] {
		n.Args[:cap(n.Args)][k] = 9
	}
	for k := range n.View.Members[:cap(n.View.Members)] {
		n.View.Members[:cap(n.View.Members)][k] = api.Member{Node: 9, Life: 9}
	}
}

// filledBytes writes to all the memory that b has.
func filledBytes(b []byte) {
	for k := range b[:cap(b)] {
		b[:cap(b)][k] = 9
	}
}

func TestP1102HandedInStays(t *testing.T) {
	for kind := range 12 {
		for _, n := range []api.Note{full(kind), least(kind), most(kind), full(kind, func(n *api.Note) { n.Args, n.View.Members = make([]int, 9), members(3, 2, 1) })} {
			n = roomy(n)
			was := shown(n)
			note.Pack(n)
			note.Clear(n)
			if shown(n) != was {
				t.Errorf("P1102: what was handed in is now %s, not %s", shown(n), was)
			}
			b := append(slowPack(n), 201, 202, 203, 204, 205)
			whole := slices.Clone(b)
			for long := range b {
				note.Read(b[:long])
			}
			if !bytes.Equal(b, whole) {
				t.Errorf("P1102: Read changed what was handed in: %v, not %v", b, whole)
			}
		}
	}
}

func TestP1102ClearIsNewMemory(t *testing.T) {
	for kind := 1; kind <= 10; kind++ {
		for _, n := range []api.Note{full(kind), most(kind), full(kind, func(n *api.Note) { n.Args, n.View.Members = n.Args[:0], n.View.Members[:0] })} {
			n = roomy(n)
			was, want := shown(n), slowClear(n)
			want.Args, want.View.Members = slices.Clone(want.Args), slices.Clone(want.View.Members)
			a, b := note.Clear(n), note.Clear(n)
			filled(a)
			if shown(n) != was {
				t.Errorf("P1102: what Clear answers shares memory with what was handed in, kind %d", kind)
			}
			filled(n)
			if !same(b, want) {
				t.Errorf("P1102: what Clear answers turns with something else: %+v, not %+v", b, want)
			}
			if a.ID != "" && unsafe.StringData(string(a.ID)) == unsafe.StringData(string(n.ID)) {
				t.Errorf("P1102: Clear's ID is the one that was handed in, kind %d", kind)
			}
		}
	}
}

func TestP1102PackIsNewMemory(t *testing.T) {
	for kind := 1; kind <= 10; kind++ {
		n := roomy(most(kind))
		want, was := slowPack(n), shown(n)
		a, _ := note.Pack(n)
		b, _ := note.Pack(n)
		filledBytes(a)
		if shown(n) != was {
			t.Errorf("P1102: what Pack answers shares memory with what was handed in, kind %d", kind)
		}
		filled(n)
		if !bytes.Equal(b, want) {
			t.Errorf("P1102: what Pack answers turns with something else: %v, not %v", b, want)
		}
		if c, _ := note.Pack(most(kind)); !bytes.Equal(c, want) {
			t.Errorf("P1102: Pack kept something, kind %d", kind)
		}
	}
}

func TestP1102ReadIsNewMemory(t *testing.T) {
	for kind := 1; kind <= 10; kind++ {
		want := slowClear(most(kind))
		b := slowPack(want)
		m, _ := note.Read(b)
		n, _ := note.Read(b)
		filled(m)
		if !bytes.Equal(b, slowPack(want)) {
			t.Errorf("P1102: what Read answers shares memory with what was handed in, kind %d", kind)
		}
		filledBytes(b)
		if !same(n, want) {
			t.Errorf("P1102: what Read answers turns with something else: %+v, not %+v", n, want)
		}
		if o, _ := note.Read(slowPack(want)); !same(o, want) {
			t.Errorf("P1102: Read kept something, kind %d", kind)
		}
	}
}

func TestP1102ArgumentsAlone(t *testing.T) {
	r := rand.New(rand.NewSource(1102))
	var notes []api.Note
	var all [][]byte
	for range 300 {
		n := someNote(r)
		all = append(all, spoiled(r, slowPack(n)))
		n.Node -= 3 * r.Intn(2) // some can't be
		notes = append(notes, n)
	}
	tell := func(k int) string {
		b, e := note.Pack(notes[k])
		n, x := note.Read(all[k])
		return fmt.Sprint(b, e, n, x, note.Clear(notes[k]))
	}
	var want []string
	for k := range notes {
		want = append(want, tell(k))
	}
	var done sync.WaitGroup
	for range 4 {
		done.Go(func() {
			for k := range notes {
				if got := tell(k); got != want[k] {
					t.Errorf("P1102: %s, then %s", want[k], got)
				}
			}
		})
	}
	done.Wait()
}

func FuzzP1101(f *testing.F) {
	for kind := range 12 {
		f.Add(slowPack(full(kind)))
		f.Add(slowPack(least(kind)))
		f.Add(slowPack(most(kind)))
	}
	f.Fuzz(func(t *testing.T, b []byte) { sameAsSlow(t, b) })
}

func FuzzP1101Pack(f *testing.F) {
	f.Add(1, 3, 1, 0, "", 0, 0, 0, 5, 0, 1, 2, 3)
	f.Add(7, 16, -1, 1<<31, "\x10", 9, 25, 4, -1, 3, 3, 16, -1)
	f.Fuzz(func(t *testing.T, kind, node, life, epoch int, id string, many, e, value, of, a, lifeA, b, lifeB int) {
		n := api.Note{Kind: kind, Node: node, Life: life, Epoch: epoch, ID: api.ID(id), Func: value, Args: make([]int, max(0, many%12)), Result: api.Result{Err: api.Errno(e), Value: value}, View: api.View{Epoch: of, Members: []api.Member{{Node: a, Life: lifeA}, {Node: b, Life: lifeB}}}}
		if slowWrong(n) {
			refused(t, n)
		} else {
			thereAndBack(t, n)
		}
	})
}
