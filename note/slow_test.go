package note_test

import (
	"bytes"
	"encoding/binary"
	"math/rand"
	"slices"
	"strings"

	"gleaner/api"
)

// greatest is the greatest Life and Epoch.
const greatest = 2147483647

// kinds is the chapter's list of what each Kind has, as it stands there.
const kinds = "Beat: Node, Life. View: View. Ask: Epoch, Node. Offer: Epoch, Life, ID, Func, Args. Take, Drop: Epoch, Life, Node, ID. End: Epoch, Node, ID, Result. Value: ID, Result. Want: Node, ID. Spawn: Epoch, Node, ID, Func, Args."

// parts are all the names that stand behind a Kind.
var parts = []string{"Node", "Life", "Epoch", "ID", "Func", "Args", "Result", "View"}

// names are the Kinds by number.
var names = []string{"", "Beat", "View", "Ask", "Offer", "Take", "Drop", "End", "Value", "Want", "Spawn"}

// noKinds are numbers that no Kind has.
var noKinds = []int{0, 11, 12, -1, -10, 255, 256, 257, 1 << 32, 1<<32 + 1, 1<<63 - 1, -1 << 63}

// slowHas is what a note of that Kind has, by the chapter's list.
func slowHas(kind int) []string {
	if kind < 1 || kind > 10 {
		return nil
	}
	for row := range strings.SplitSeq(strings.TrimSuffix(kinds, "."), ". ") {
		who, what, _ := strings.Cut(row, ": ")
		if slices.Contains(strings.Split(who, ", "), names[kind]) {
			return strings.Split(what, ", ")
		}
	}
	return nil
}

// full has all parts, each of its own, whatever the Kind; turned by turn.
func full(kind int, turn ...func(n *api.Note)) api.Note {
	n := api.Note{Kind: kind, Node: 3, Life: 70, Epoch: 5, ID: "\x02\x0f", Func: 7, Args: []int{-1, 9, 300}, Result: api.Result{Err: api.ErrFail, Value: -4}, View: api.View{Epoch: 6, Members: []api.Member{{Node: 0, Life: 1}, {Node: 2, Life: 80}, {Node: 15, Life: 0}}}}
	for _, t := range turn {
		t(&n)
	}
	return n
}

// least has nothing but its Kind.
func least(kind int) api.Note {
	return api.Note{Kind: kind}
}

// most has as much of everything as there may be.
func most(kind int) api.Note {
	n := api.Note{Kind: kind, Node: 15, Life: greatest, Epoch: greatest, ID: api.ID(strings.Repeat("\x0f", 12)), Func: 31, Result: api.Result{Err: api.ErrFail, Value: -1 << 63}, View: api.View{Epoch: greatest}}
	for k := range 8 {
		n.Args = append(n.Args, -1<<63+k)
	}
	for k := range 16 {
		n.View.Members = append(n.View.Members, api.Member{Node: k, Life: greatest - k})
	}
	return n
}

// ints is b with numbers behind it, as chapter 1 writes them, by the library's means.
func ints(b []byte, n ...int) []byte {
	b = slices.Clone(b)
	for _, x := range n {
		b = binary.AppendVarint(b, int64(x))
	}
	return b
}

// slowPart is one part of any note as the chapter writes it, also of one that can't be.
func slowPart(n api.Note, name string) []byte {
	switch name {
	case "Node":
		return ints(nil, n.Node)
	case "Life":
		return ints(nil, n.Life)
	case "Epoch":
		return ints(nil, n.Epoch)
	case "ID":
		return append(ints(nil, len(n.ID)), n.ID...)
	case "Func":
		return ints(nil, n.Func)
	case "Args":
		return ints(ints(nil, len(n.Args)), n.Args...)
	case "Result":
		return ints(nil, int(n.Result.Err), n.Result.Value)
	}
	b := ints(nil, n.View.Epoch, len(n.View.Members))
	for _, m := range n.View.Members {
		b = ints(b, m.Node, m.Life)
	}
	return b
}

// slowPack writes any note as the chapter says, also one that can't be.
func slowPack(n api.Note) []byte {
	b := ints(nil, n.Kind)
	for _, name := range slowHas(n.Kind) {
		b = append(b, slowPart(n, name)...)
	}
	return b
}

// slowClear takes away what the Kind has not.
func slowClear(n api.Note) api.Note {
	has := slowHas(n.Kind)
	if has == nil {
		return api.Note{}
	}
	for _, name := range parts {
		if !slices.Contains(has, name) {
			put(&n, api.Note{}, name)
		}
	}
	return n
}

// put turns one part of n to what from has there.
func put(n *api.Note, from api.Note, name string) {
	switch name {
	case "Node":
		n.Node = from.Node
	case "Life":
		n.Life = from.Life
	case "Epoch":
		n.Epoch = from.Epoch
	case "ID":
		n.ID = from.ID
	case "Func":
		n.Func = from.Func
	case "Args":
		n.Args = from.Args
	case "Result":
		n.Result = from.Result
	case "View":
		n.View = from.View
	}
}

// out tells whether a number is not from 0 to high.
func out(n, high int) bool { return n < 0 || n > high }

// slowWrong tells whether Pack refuses n, as the chapter says.
func slowWrong(n api.Note) bool {
	if slowHas(n.Kind) == nil {
		return true
	}
	for _, name := range slowHas(n.Kind) {
		if wrongPart(n, name) {
			return true
		}
	}
	return false
}

func wrongPart(n api.Note, name string) bool {
	switch name {
	case "Node":
		return out(n.Node, 15)
	case "Life":
		return out(n.Life, greatest)
	case "Epoch":
		return out(n.Epoch, greatest)
	case "ID":
		return len(n.ID) > 12 || strings.ContainsFunc(string(n.ID), func(r rune) bool { return r > 15 })
	case "Func":
		return out(n.Func, 31)
	case "Args":
		return len(n.Args) > 8
	case "Result":
		e := int(n.Result.Err)
		return e != 0 && out(e-20, 5) || n.Result.Value != 0 && e != 0 && e != 25
	}
	for k, m := range n.View.Members {
		if out(m.Node, 15) || out(m.Life, greatest) || k > 0 && n.View.Members[k-1].Node >= m.Node {
			return true
		}
	}
	return out(n.View.Epoch, greatest) || len(n.View.Members) > 16
}

// slow reads what might be there: not whether a number might be shorter, nor whether it can be.
type slow struct {
	rest []byte
	ok   bool
}

func (s *slow) int() int {
	x, width := binary.Varint(s.rest)
	if width <= 0 {
		s.rest, s.ok = nil, false
		return 0
	}
	s.rest = s.rest[width:]
	return int(x)
}

func (s *slow) count() int {
	n := s.int()
	if n < 0 || n > len(s.rest) {
		s.rest, s.ok = nil, false
		return 0
	}
	return n
}

func (s *slow) part(n *api.Note, name string) {
	switch name {
	case "Node":
		n.Node = s.int()
	case "Life":
		n.Life = s.int()
	case "Epoch":
		n.Epoch = s.int()
	case "ID":
		long := s.count()
		n.ID, s.rest = api.ID(s.rest[:long]), s.rest[long:]
	case "Func":
		n.Func = s.int()
	case "Args":
		for many := s.count(); many > 0; many-- {
			n.Args = append(n.Args, s.int())
		}
	case "Result":
		n.Result.Err = api.Errno(s.int())
		n.Result.Value = s.int()
	case "View":
		n.View.Epoch = s.int()
		for many := s.count(); many > 0; many-- {
			m := api.Member{Node: s.int()}
			m.Life = s.int()
			n.View.Members = append(n.View.Members, m)
		}
	}
}

// slowRead reads b as the chapter says: it takes what might be there, and holds b against what that note is written as.
func slowRead(b []byte) (api.Note, api.Errno) {
	s := slow{rest: b, ok: true}
	n := api.Note{Kind: s.int()}
	for _, name := range slowHas(n.Kind) {
		s.part(&n, name)
	}
	if !s.ok || slowWrong(n) || !bytes.Equal(slowPack(n), b) {
		return api.Note{}, api.ErrByte
	}
	return n, api.OK
}

// same tells whether two notes are one, nil and empty lists meaning the same.
func same(a, b api.Note) bool {
	return a.Kind == b.Kind && a.Node == b.Node && a.Life == b.Life && a.Epoch == b.Epoch && a.ID == b.ID && a.Func == b.Func && slices.Equal(a.Args, b.Args) && a.Result == b.Result && a.View.Epoch == b.View.Epoch && slices.Equal(a.View.Members, b.View.Members)
}

// aNumber makes a number from 0 to high, of any length.
func aNumber(r *rand.Rand, high int) int {
	return min(int(r.Uint64()>>(1+r.Intn(63))), high)
}

// anInt makes a number of any length.
func anInt(r *rand.Rand) int {
	return int(r.Uint64()>>r.Intn(64)) * (1 - 2*r.Intn(2))
}

// someNote makes a note that may be, with all parts, whatever its Kind has.
func someNote(r *rand.Rand) api.Note {
	n := api.Note{Kind: 1 + r.Intn(10), Node: r.Intn(16), Life: aNumber(r, greatest), Epoch: aNumber(r, greatest), Func: r.Intn(32)}
	for range r.Intn(13) {
		n.ID += api.ID(rune(r.Intn(16)))
	}
	for range r.Intn(9) {
		n.Args = append(n.Args, anInt(r))
	}
	n.Result.Err = []api.Errno{api.OK, api.OK, api.ErrDiv, api.ErrFuel, api.ErrDeep, api.ErrKids, api.ErrHandle, api.ErrFail, api.ErrFail}[r.Intn(9)]
	if n.Result.Err == api.OK || n.Result.Err == api.ErrFail {
		n.Result.Value = anInt(r)
	}
	n.View.Epoch = aNumber(r, greatest)
	some := 1 + r.Intn(4)
	for k := range 16 {
		if r.Intn(4) < some {
			n.View.Members = append(n.View.Members, api.Member{Node: k, Life: aNumber(r, greatest)})
		}
	}
	return n
}

// spoiled turns, takes away or puts in some of b's bytes.
func spoiled(r *rand.Rand, b []byte) []byte {
	b = slices.Clone(b)
	for range 1 + r.Intn(2) {
		if len(b) == 0 {
			return b
		}
		at := r.Intn(len(b))
		switch r.Intn(5) {
		case 0:
			b[at] ^= 1 << r.Intn(8)
		case 1:
			b = slices.Delete(b, at, at+1)
		case 2:
			b = slices.Insert(b, at, byte(r.Intn(256)))
		case 3:
			b[at] = []byte{0, 1, 2, 16, 20, 22, 24, 26, 30, 32, 40, 50, 62, 64, 0x7f, 0x80, 0xff}[r.Intn(17)]
		case 4:
			b = b[:at]
		}
	}
	return b
}
