package net_test

import (
	"bytes"
	"math"
	"math/rand"
	"slices"
	"testing"

	"gleaner/api"
	"gleaner/net"
)

// room is how many parcels there may be on the way.
const room = 10000

// wrongPlaces are numbers that are no place among so many.
func wrongPlaces(many int) []int {
	return []int{-1, -2, -many, -many - 1, math.MinInt, math.MinInt + 1, math.MinInt32, -1 << 32, many, many + 1, 2*many + 1, room, 1 << 31, 1 << 32, 1 << 62, math.MaxInt}
}

func parcel(from, to int, b ...byte) api.Parcel {
	return api.Parcel{From: from, To: to, Bytes: b}
}

// row is parcels that differ in everything, as many.
func row(many int) (l []api.Parcel) {
	for k := range many {
		l = append(l, parcel(k, -k, byte(k), byte(k>>8), 77))
	}
	return l
}

// copies is l in memory of its own.
func copies(l []api.Parcel) []api.Parcel {
	l = slices.Clone(l)
	for k := range l {
		l[k].Bytes = bytes.Clone(l[k].Bytes)
	}
	return l
}

// same tells whether two parcels are one, nil and empty Bytes meaning the same.
func same(a, b api.Parcel) bool {
	return a.From == b.From && a.To == b.To && bytes.Equal(a.Bytes, b.Bytes)
}

// onTheWay asks that just these are on the way.
func onTheWay(t *testing.T, p string, n *net.Net, want ...api.Parcel) {
	t.Helper()
	if got := n.Way(); !slices.EqualFunc(got, want, same) {
		if len(got)+len(want) > 40 {
			t.Fatalf("%s: on the way are %d parcels, not just these %d", p, len(got), len(want))
		}
		t.Fatalf("%s: on the way are %v, not %v", p, got, want)
	}
}

// sent is a net with these on the way.
func sent(l ...api.Parcel) *net.Net {
	n := net.New()
	n.Send(copies(l)...)
	return n
}

// slowNet is a net as the chapter says: each call makes a new row.
type slowNet struct{ way []api.Parcel }

func (s *slowNet) send(l ...api.Parcel) (put int) {
	for _, p := range copies(l) {
		if len(s.way) < room {
			s.way = append(s.way, p)
			put++
		}
	}
	return put
}

func (s *slowNet) is(k int) bool {
	for i := range s.way {
		if i == k {
			return true
		}
	}
	return false
}

func (s *slowNet) deliver(k int) (got api.Parcel, ok bool) {
	var rest []api.Parcel
	for i, p := range s.way {
		if i == k {
			got, ok = p, true
		} else {
			rest = append(rest, p)
		}
	}
	s.way = rest
	return got, ok
}

func (s *slowNet) dup(k int) bool {
	return s.is(k) && s.send(s.way[k]) == 1
}

func (s *slowNet) flip(k, bit int) bool {
	if !s.is(k) {
		return false
	}
	at := 0
	for i := range s.way[k].Bytes {
		for _, mask := range []byte{1, 2, 4, 8, 16, 32, 64, 128} {
			if at == bit {
				s.way[k].Bytes[i] ^= mask
				return true
			}
			at++
		}
	}
	return false
}

func (s *slowNet) gone(nodes ...int) (lost int) {
	var rest []api.Parcel
	for _, p := range s.way {
		if slices.Contains(nodes, p.From) || slices.Contains(nodes, p.To) {
			lost++
		} else {
			rest = append(rest, p)
		}
	}
	s.way = rest
	return lost
}

// someParcel makes a parcel between a few nodes, or between any numbers.
func someParcel(r *rand.Rand) api.Parcel {
	p := parcel(r.Intn(6)-1, r.Intn(6)-1, make([]byte, r.Intn(4))...)
	r.Read(p.Bytes)
	if r.Intn(10) == 0 {
		p.From, p.To = int(r.Uint64()), int(r.Uint64())
	}
	return p
}

// both is a net and a slow one that are told the same.
type both struct {
	*testing.T
	fast *net.Net
	slow *slowNet
}

// step does one thing to both, asks that they answer the same, and tells which it was and whether it came to something.
func (b both) step(r *rand.Rand) (call int, did bool) {
	b.Helper()
	call = r.Intn(7)
	k := r.Intn(len(b.slow.way)+3) - 1
	switch call {
	case 0, 1:
		l := make([]api.Parcel, r.Intn(4))
		for i := range l {
			l[i] = someParcel(r)
		}
		got, want := b.fast.Send(l...), b.slow.send(l...)
		return 0, b.agree("Send", got, want) && want > 0
	case 2:
		got, ok := b.fast.Deliver(k)
		want, is := b.slow.deliver(k)
		if !same(got, want) {
			b.Fatalf("P1201: Deliver(%d): %v, not %v", k, got, want)
		}
		return call, b.agree("Deliver", ok, is) && is
	case 3:
		got := b.fast.Drop(k)
		_, want := b.slow.deliver(k)
		return call, b.agree("Drop", got, want) && want
	case 4:
		got, want := b.fast.Dup(k), b.slow.dup(k)
		return call, b.agree("Dup", got, want) && want
	case 5:
		bit := r.Intn(30) - 4
		got, want := b.fast.Flip(k, bit), b.slow.flip(k, bit)
		return call, b.agree("Flip", got, want) && want
	}
	nodes := make([]int, r.Intn(3))
	for i := range nodes {
		nodes[i] = r.Intn(40) - 2
	}
	got, want := b.fast.Gone(nodes...), b.slow.gone(nodes...)
	return call, b.agree("Gone", got, want) && want > 0
}

func (b both) agree(call string, got, want any) bool {
	b.Helper()
	if got != want {
		b.Fatalf("P1201: %s: %v, not %v", call, got, want)
	}
	return true
}
