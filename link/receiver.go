package link

import (
	"bytes"

	"gleaner/api"
)

// receiver is the half of a link that puts what comes in into order.
type receiver struct {
	came  int // the greatest number up to which all loads came in
	early [api.Window]earlyLoad
	owed  bool // whether the peer is to be told of came
}

// earlyLoad is a load that came in ahead of one with a lower number.
type earlyLoad struct {
	load []byte
	here bool
}

// accept keeps the load of that number, if it is a new one and not too far ahead, and answers those that are next in order by now. Of others, too, an acknowledgement is owed: the peer sent them as it had none.
func (r *receiver) accept(number int, load []byte) [][]byte {
	r.owed = true
	if number <= r.came || number > r.came+api.Window {
		return nil
	}
	if e := r.spot(number); !e.here {
		*e = earlyLoad{bytes.Clone(load), true}
	}
	return r.inOrder()
}

// inOrder answers the loads behind those that came in, up to the first one that is missing, and keeps them no more.
func (r *receiver) inOrder() [][]byte {
	var out [][]byte
	for e := r.spot(r.came + 1); e.here; e = r.spot(r.came + 1) {
		out = append(out, e.load)
		*e = earlyLoad{}
		r.came++
	}
	return out
}

// spot is where the load of that number is kept: no two numbers that may be kept at a time have one spot.
func (r *receiver) spot(number int) *earlyLoad { return &r.early[number%api.Window] }
