package frame_test

import (
	"bytes"
	"encoding/binary"
	"hash/crc32"
	"math/rand"
	"slices"

	"gleaner/api"
)

// greatest is the greatest Life, Seq and Ack.
const greatest = 2147483647

// usual is a frame in which all fields are there, each of its own; turned by turn.
func usual(turn ...func(f *api.Frame)) api.Frame {
	f := api.Frame{From: 3, To: 15, Life: 1, Seq: 300, Ack: 70, Load: []byte("load")}
	for _, t := range turn {
		t(&f)
	}
	return f
}

// most is a frame with as much of everything as there may be.
func most() api.Frame {
	return api.Frame{From: 15, To: 15, Life: greatest, Seq: greatest, Ack: greatest, Load: bytes.Repeat([]byte{0xA5}, 4096)}
}

// fields are the numbers of a frame by name: where each stands, and the greatest that it may be.
var fields = []struct {
	name string
	of   func(f *api.Frame) *int
	most int
}{
	{"From", func(f *api.Frame) *int { return &f.From }, 15},
	{"To", func(f *api.Frame) *int { return &f.To }, 15},
	{"Life", func(f *api.Frame) *int { return &f.Life }, greatest},
	{"Seq", func(f *api.Frame) *int { return &f.Seq }, greatest},
	{"Ack", func(f *api.Frame) *int { return &f.Ack }, greatest},
}

// ints is b with numbers behind it, as chapter 1 writes them, by the library's means.
func ints(b []byte, n ...int) []byte {
	b = slices.Clone(b)
	for _, x := range n {
		b = binary.AppendVarint(b, int64(x))
	}
	return b
}

// sealed is b with its sum behind.
func sealed(b []byte) []byte {
	return binary.LittleEndian.AppendUint32(slices.Clone(b), crc32.ChecksumIEEE(b))
}

// slowBody writes any frame as the chapter says, also one that can't be; without its sum.
func slowBody(f api.Frame) []byte {
	return append(ints([]byte("F"), f.From, f.To, f.Life, f.Seq, f.Ack, len(f.Load)), f.Load...)
}

func slowPack(f api.Frame) []byte {
	return sealed(slowBody(f))
}

// slowWrong is what Pack refuses f with, as the chapter says.
func slowWrong(f api.Frame) api.Errno {
	for _, x := range fields {
		if n := *x.of(&f); n < 0 || n > x.most {
			return api.ErrArg
		}
	}
	if len(f.Load) > 4096 {
		return api.ErrLong
	}
	return api.OK
}

// slowRead reads b as the chapter says: it takes what might be there, and holds b against what that frame is written as.
func slowRead(b []byte) (api.Frame, api.Errno) {
	if len(b) < 5 || b[0] != 'F' {
		return api.Frame{}, api.ErrByte
	}
	if body := b[:len(b)-4]; !bytes.Equal(b, sealed(body)) {
		return api.Frame{}, api.ErrSum
	}
	rest := b[1 : len(b)-4]
	var n [6]int
	for k := range n {
		x, width := binary.Varint(rest)
		if width <= 0 {
			return api.Frame{}, api.ErrByte
		}
		n[k], rest = int(x), rest[width:]
	}
	f := api.Frame{From: n[0], To: n[1], Life: n[2], Seq: n[3], Ack: n[4], Load: rest}
	if slowWrong(f) != api.OK || !bytes.Equal(slowPack(f), b) {
		return api.Frame{}, api.ErrByte
	}
	return f, api.OK
}

// same tells whether two frames are one, nil and an empty Load meaning the same.
func same(a, b api.Frame) bool {
	return a.From == b.From && a.To == b.To && a.Life == b.Life && a.Seq == b.Seq && a.Ack == b.Ack && bytes.Equal(a.Load, b.Load)
}

// aNumber makes a number from 0 to most, of any length.
func aNumber(r *rand.Rand, most int) int {
	return min(int(r.Uint64()>>(1+r.Intn(63))), most)
}

// someFrame makes a frame that may be.
func someFrame(r *rand.Rand) api.Frame {
	f := api.Frame{Load: make([]byte, r.Intn(30))}
	r.Read(f.Load)
	for _, x := range fields {
		*x.of(&f) = aNumber(r, x.most)
	}
	return f
}

// spoiled turns, takes away or puts in some of b's bytes.
func spoiled(r *rand.Rand, b []byte) []byte {
	b = slices.Clone(b)
	for range 1 + r.Intn(2) {
		if len(b) == 0 {
			return b
		}
		at := r.Intn(len(b))
		switch r.Intn(5) {
		case 0:
			b[at] ^= 1 << r.Intn(8)
		case 1:
			b = slices.Delete(b, at, at+1)
		case 2:
			b = slices.Insert(b, at, byte(r.Intn(256)))
		case 3:
			b[at] = []byte{0, 1, 2, 30, 31, 32, 0x7f, 0x80, 0xff}[r.Intn(9)]
		case 4:
			b = b[:at]
		}
	}
	return b
}

// turned is b with the bits of mask turned from bit at on: bit k is bit k%8 of byte k/8, as the net counts them.
func turned(b []byte, at int, mask uint32) []byte {
	b = slices.Clone(b)
	for k := range 32 {
		if mask>>k&1 == 1 {
			b[(at+k)/8] ^= 1 << ((at + k) % 8)
		}
	}
	return b
}
