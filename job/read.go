package job

import (
	"gleaner/api"
	"gleaner/pack"
)

// reader takes the bytes of a job apart.
type reader struct{ *pack.Cursor }

func (r reader) job() (j api.Job) {
	j.Fuel, j.Tasks, j.Main = r.Int(), r.Int(), r.Int()
	j.Args = pack.List(r.Cursor, r.Int)
	j.Funcs = pack.List(r.Cursor, r.function)
	return j
}

func (r reader) function() (f api.Func) {
	f.Name = string(r.Bytes())
	f.Args, f.Locals = r.Int(), r.Int()
	f.Code = pack.List(r.Cursor, r.instruction)
	return f
}

func (r reader) instruction() (i api.Ins) {
	i.Op, i.N = r.Int(), r.Int()
	return i
}
