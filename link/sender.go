package link

import (
	"bytes"
	"math"

	"gleaner/api"
)

const (
	firstWait   = 4  // how long a load is not due behind the first time that it was out
	longestWait = 64 // the wait doubles each time, up to this
)

// sender is the half of a link that numbers loads, and keeps those that are not acknowledged. As acknowledgements are of all numbers up to one, those that are open stand side by side.
type sender struct {
	last  int // the greatest number that may be used
	used  int // the last number that was used
	acked int // the last number that is open no more
	open  [api.Window]openLoad
}

// openLoad is a load that is not acknowledged.
type openLoad struct {
	load []byte
	at   int // when it was out last
	wait int // how long from then on it is not due; 0: it was never out
}

// Send gives the load the next number; from then on it is open.
func (s *sender) Send(load []byte) api.Errno {
	switch {
	case len(load) > api.MaxLoad:
		return api.ErrLong
	case s.used >= s.last:
		return api.ErrDone
	case s.Open() >= api.Window:
		return api.ErrFull
	}
	s.used++
	*s.place(s.used) = openLoad{load: bytes.Clone(load)}
	return api.OK
}

// Open answers how many loads are not acknowledged.
func (s *sender) Open() int { return s.used - s.acked }

// Seq answers the last number that was used; 0: none.
func (s *sender) Seq() int { return s.used }

// place is where the open load of that number is kept: no two numbers that are open at a time have one place.
func (s *sender) place(number int) *openLoad { return &s.open[number%api.Window] }

// dueAt answers a frame, with its number and load alone, for each load that is due, which then was out.
func (s *sender) dueAt(now int) []api.Frame {
	var out []api.Frame
	for number := s.acked + 1; number <= s.used; number++ {
		o := s.place(number)
		if o.isDue(now) {
			o.goOut(now)
			out = append(out, api.Frame{Seq: number, Load: bytes.Clone(o.load)})
		}
	}
	return out
}

// closeUpTo lets go of the open loads up to that number, which was used.
func (s *sender) closeUpTo(number int) {
	for s.acked < number {
		s.acked++
		*s.place(s.acked) = openLoad{} // else its bytes would stay in memory
	}
}

// isDue answers whether the load is to go out. The time from which it is due may be beyond all ints: then it never is.
func (o *openLoad) isDue(now int) bool {
	if o.wait == 0 {
		return true
	}
	return o.at <= math.MaxInt-o.wait && now >= o.at+o.wait
}

// goOut notes that the load is out now, and for how long it waits then.
func (o *openLoad) goOut(now int) {
	o.at = now
	o.wait = min(max(firstWait, 2*o.wait), longestWait)
}
