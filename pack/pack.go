// Package pack is layer 1: it writes numbers and texts as bytes, and reads them.
package pack

// maxWidth is how many bytes of seven bits it takes for 64 bits; the last of them has room for one bit.
const maxWidth = 10

// Int answers b with the numbers behind it.
func Int(b []byte, n ...int) []byte {
	out := copyOf(b)
	for _, x := range n {
		out = appendInt(out, x)
	}
	return out
}

// Bytes answers b with the texts behind it, each with its length ahead.
func Bytes(b []byte, x ...[]byte) []byte {
	out := copyOf(b)
	for _, text := range x {
		out = append(appendInt(out, len(text)), text...)
	}
	return out
}

// Cursor reads what Int and Bytes wrote.
type Cursor struct{ place }

// New answers a cursor at the first byte of b.
func New(b []byte) *Cursor {
	return &Cursor{place{rest: copyOf(b)}}
}

// Int reads the next number.
func (c *Cursor) Int() int {
	u, width := firstNumber(c.rest)
	if width == 0 {
		c.spoil()
		return 0
	}
	c.skip(width)
	return unfold(u)
}

// Bytes reads the next text.
func (c *Cursor) Bytes() []byte {
	n := c.count()
	text := copyOf(c.rest[:n])
	c.skip(n)
	return text
}

// List reads how many things come, then each of them by one, which takes a byte of c at least. It ends at the first wrong byte, and makes no room ahead: the number may promise far more than what follows.
func List[T any](c *Cursor, one func() T) []T {
	n := c.count()
	var out []T
	for len(out) < n && !c.Bad() {
		out = append(out, one())
	}
	if c.Bad() {
		return nil
	}
	return out
}

// count reads a number of bytes, or of things that take one at least; 0, and c is Bad: there can't be so many.
func (c *Cursor) count() int {
	n := c.Int()
	if n < 0 || n > c.Left() {
		c.spoil()
		return 0
	}
	return n
}

// place is where a cursor stands: what it has not read, and whether it met what no writer writes.
type place struct {
	rest []byte
	bad  bool
}

// Left answers how many bytes are not read.
func (p *place) Left() int { return len(p.rest) }

// Bad answers whether what was read is not what Int and Bytes write.
func (p *place) Bad() bool { return p.bad }

// End answers whether all was read, and was good.
func (p *place) End() bool { return !p.bad && len(p.rest) == 0 }

func (p *place) skip(n int) { p.rest = p.rest[n:] }

// spoil leaves nothing to read, so that every later read fails by itself.
func (p *place) spoil() { p.rest, p.bad = nil, true }

// copyOf keeps callers' memory apart from ours, its spare room too: an append to b itself might write there.
func copyOf(b []byte) []byte {
	out := make([]byte, len(b))
	copy(out, b)
	return out
}

func appendInt(b []byte, n int) []byte {
	u := fold(n)
	for u >= 1<<7 {
		b = append(b, byte(u)|1<<7)
		u >>= 7
	}
	return append(b, byte(u))
}

// firstNumber answers the folded number at the front of b and its width; width 0: there is none.
func firstNumber(b []byte) (u uint64, width int) {
	for i := 0; i < len(b) && i < maxWidth; i++ {
		if i == maxWidth-1 && b[i] > 1 {
			return 0, 0
		}
		u |= uint64(b[i]&(1<<7-1)) << (7 * i)
		if b[i] >= 1<<7 {
			continue
		}
		if i > 0 && b[i] == 0 { // without this byte it would be the same number
			return 0, 0
		}
		return u, i + 1
	}
	return 0, 0
}

// fold answers 2 * n, or -2 * n - 1 for n below 0; in bits, since the lowest int has no -2 * n.
func fold(n int) uint64 {
	if n < 0 {
		return ^(uint64(n) << 1)
	}
	return uint64(n) << 1
}

func unfold(u uint64) int {
	if u&1 == 1 {
		return int(^(u >> 1))
	}
	return int(u >> 1)
}
