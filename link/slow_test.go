package link_test

import (
	"bytes"
	"math/big"
	"math/rand"
	"slices"
	"testing"

	"gleaner/api"
	"gleaner/link"
)

// slowLink is a link as the chapter says: it keeps all that ever was, and goes over all of it each time.
type slowLink struct {
	self, peer, life, theirs, last int
	sent                           []slowLoad     // number k+1 at k
	in                             map[int][]byte // by number
	told                           int            // so many of in were answered
	owed                           bool
}

type slowLoad struct {
	load  []byte
	times []int // when it was out
	acked bool
}

func newSlow(self, peer, life, theirs, last int) *slowLink {
	return &slowLink{self: self, peer: peer, life: life, theirs: theirs, last: last, in: map[int][]byte{}}
}

func (s *slowLink) open() (many int) {
	for _, x := range s.sent {
		if !x.acked {
			many++
		}
	}
	return many
}

func (s *slowLink) send(load []byte) api.Errno {
	if len(load) > 4096 {
		return api.ErrLong
	}
	if len(s.sent) >= s.last {
		return api.ErrDone
	}
	if s.open() >= 8 {
		return api.ErrFull
	}
	s.sent = append(s.sent, slowLoad{load: bytes.Clone(load)})
	return api.OK
}

// isDue works the time out in numbers without an end.
func (x slowLoad) isDue(now int) bool {
	if len(x.times) == 0 {
		return true
	}
	w := int64(4)
	for range x.times[1:] {
		w = min(2*w, 64)
	}
	from := big.NewInt(int64(x.times[len(x.times)-1]))
	return big.NewInt(int64(now)).Cmp(from.Add(from, big.NewInt(w))) >= 0
}

func (s *slowLink) frame(seq int, load []byte) api.Frame {
	ack := 0
	for s.in[ack+1] != nil {
		ack++
	}
	return api.Frame{From: s.self, To: s.peer, Life: s.life, Seq: seq, Ack: ack, Load: bytes.Clone(load)}
}

func (s *slowLink) out(now int) (l []api.Frame) {
	for k := range s.sent {
		if x := &s.sent[k]; !x.acked && x.isDue(now) {
			x.times = append(x.times, now)
			l = append(l, s.frame(k+1, x.load))
		}
	}
	if len(l) == 0 && s.owed {
		l = append(l, s.frame(0, nil))
	}
	s.owed = s.owed && len(l) == 0
	return l
}

func (s *slowLink) take(f api.Frame) (l [][]byte, ok bool) {
	if f.From != s.peer || f.To != s.self || f.Life != s.theirs || f.Ack > len(s.sent) || f.Seq < 0 || len(f.Load) > 4096 {
		return nil, false
	}
	for k := range s.sent {
		s.sent[k].acked = s.sent[k].acked || k+1 <= f.Ack
	}
	if f.Seq == 0 {
		return nil, true
	}
	s.owed = true
	if s.in[f.Seq] != nil || f.Seq > s.told+8 {
		return nil, true
	}
	s.in[f.Seq] = append([]byte{}, f.Load...) // never nil
	for s.in[s.told+1] != nil {
		s.told++
		l = append(l, bytes.Clone(s.in[s.told]))
	}
	return l, true
}

// same tells whether two frames are one, nil and an empty Load meaning the same.
func same(a, b api.Frame) bool {
	return a.From == b.From && a.To == b.To && a.Life == b.Life && a.Seq == b.Seq && a.Ack == b.Ack && bytes.Equal(a.Load, b.Load)
}

// both is a link and a slow one that are told the same.
type both struct {
	*testing.T
	fast *link.Link
	slow *slowLink
	now  int
}

func newBoth(t *testing.T, self, peer, life, theirs, last int) *both {
	return &both{t, link.New(self, peer, life, theirs, last), newSlow(self, peer, life, theirs, last), 0}
}

func (b *both) send(load []byte) api.Errno {
	b.Helper()
	got, want := b.fast.Send(load), b.slow.send(load)
	if got != want {
		b.Fatalf("P1301: Send of %d bytes: %d, not %d", len(load), got, want)
	}
	b.count()
	return want
}

func (b *both) out(now int) []api.Frame {
	b.Helper()
	got, want := b.fast.Out(now), b.slow.out(now)
	if !slices.EqualFunc(got, want, same) {
		b.Fatalf("P1302: Out(%d): %v, not %v", now, got, want)
	}
	b.count()
	return want
}

func (b *both) take(f api.Frame) ([][]byte, bool) {
	b.Helper()
	got, ok := b.fast.In(f)
	want, is := b.slow.take(f)
	if ok != is || !slices.EqualFunc(got, want, bytes.Equal) {
		b.Fatalf("P1303: In of %v: %v %v, not %v %v", f, got, ok, want, is)
	}
	b.count()
	return want, is
}

func (b *both) count() {
	b.Helper()
	if b.fast.Open() != b.slow.open() || b.fast.Seq() != len(b.slow.sent) {
		b.Fatalf("P1301: %d open, %d used, not %d and %d", b.fast.Open(), b.fast.Seq(), b.slow.open(), len(b.slow.sent))
	}
}

// someFrame makes a frame that may come to s, and now and then one that may not.
func someFrame(r *rand.Rand, s *slowLink) api.Frame {
	f := api.Frame{From: s.peer, To: s.self, Life: s.theirs, Seq: max(0, s.told+r.Intn(14)-3), Ack: r.Intn(len(s.sent) + 1), Load: someLoad(r)}
	if r.Intn(3) > 0 {
		f.Ack = max(0, len(s.sent)-r.Intn(9))
	}
	odd := []int{-1, 1, 2, r.Intn(9), -1 << 63, 1<<63 - 1, int(r.Uint64())}[r.Intn(7)]
	switch r.Intn(20) {
	case 0:
		f.From = odd
	case 1:
		f.To = odd
	case 2:
		f.Life = odd
	case 3:
		f.Seq = odd
	case 4:
		f.Ack = odd
	case 5:
		f.Ack = len(s.sent) + 1
	case 6:
		f.Load = make([]byte, 4096+r.Intn(2))
	case 7:
		f.Seq = 0
	}
	return f
}

func someLoad(r *rand.Rand) []byte {
	load := make([]byte, r.Intn(4))
	r.Read(load)
	return load
}

// step does one thing to both, asks that they answer the same, and tells what came of it.
func (b *both) step(r *rand.Rand) string {
	b.Helper()
	switch r.Intn(7) {
	case 0, 1:
		load := someLoad(r)
		if r.Intn(15) == 0 {
			load = make([]byte, 4096+r.Intn(2))
		}
		return "Send " + map[api.Errno]string{api.OK: "OK", api.ErrLong: "ErrLong", api.ErrDone: "ErrDone", api.ErrFull: "ErrFull"}[b.send(load)]
	case 2, 3:
		b.now += r.Intn(12) - 1
		l := b.out(b.now)
		if len(l) == 1 && l[0].Seq == 0 {
			return "Out owed"
		}
		return "Out " + []string{"none", "one", "some"}[min(len(l), 2)]
	}
	l, ok := b.take(someFrame(r, b.slow))
	if !ok {
		return "In no"
	}
	return "In " + []string{"none", "one", "some"}[min(len(l), 2)]
}
