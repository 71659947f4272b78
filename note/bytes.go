package note

import (
	"gleaner/api"
	"gleaner/pack"
)

// written answers b with these parts of n behind it.
func written(b []byte, n api.Note, has ...part) []byte {
	for _, p := range has {
		switch p {
		case node:
			b = pack.Int(b, n.Node)
		case life:
			b = pack.Int(b, n.Life)
		case epoch:
			b = pack.Int(b, n.Epoch)
		case id:
			b = pack.Bytes(b, []byte(n.ID))
		case function:
			b = pack.Int(b, n.Func)
		case args:
			b = pack.Int(b, len(n.Args))
			b = pack.Int(b, n.Args...)
		case result:
			b = pack.Int(b, int(n.Result.Err), n.Result.Value)
		case view:
			b = pack.Int(b, n.View.Epoch)
			b = writtenMembers(b, n.View.Members...)
		}
	}
	return b
}

func writtenMembers(b []byte, m ...api.Member) []byte {
	b = pack.Int(b, len(m))
	for _, x := range m {
		b = pack.Int(b, x.Node, x.Life)
	}
	return b
}

// reader takes the bytes of a note apart, whatever stands there: only behind the last of them it can be told whether they are a note's.
type reader struct{ *pack.Cursor }

func (r reader) note() (n api.Note) {
	n.Kind = r.Int()
	for _, p := range parts(n.Kind) {
		switch p {
		case node:
			n.Node = r.Int()
		case life:
			n.Life = r.Int()
		case epoch:
			n.Epoch = r.Int()
		case id:
			n.ID = api.ID(r.Bytes())
		case function:
			n.Func = r.Int()
		case args:
			n.Args = pack.List(r.Cursor, r.Int)
		case result:
			n.Result = r.result()
		case view:
			n.View = r.view()
		}
	}
	return n
}

func (r reader) result() (x api.Result) {
	x.Err = api.Errno(r.Int())
	x.Value = r.Int()
	return x
}

func (r reader) view() (v api.View) {
	v.Epoch = r.Int()
	v.Members = pack.List(r.Cursor, r.member)
	return v
}

func (r reader) member() (m api.Member) {
	m.Node, m.Life = r.Int(), r.Int()
	return m
}
