package job

import (
	"gleaner/api"
	"gleaner/pack"
)

// reader takes the bytes of a job apart. The cursor can't tell which numbers count something, so that the reader itself looks at those.
type reader struct {
	*pack.Cursor
	miscounted bool // a number of things can't be
}

func (r *reader) job() (j api.Job) {
	j.Fuel, j.Tasks, j.Main = r.Int(), r.Int(), r.Int()
	j.Args = list(r, r.Int)
	j.Funcs = list(r, r.function)
	return j
}

func (r *reader) function() (f api.Func) {
	f.Name = string(r.Bytes())
	f.Args, f.Locals = r.Int(), r.Int()
	f.Code = list(r, r.instruction)
	return f
}

func (r *reader) instruction() (i api.Ins) {
	i.Op, i.N = r.Int(), r.Int()
	return i
}

// list reads how many things come, then each of them by one. It ends at the first wrong byte, and makes no room ahead: the number may promise far more than what follows.
func list[T any](r *reader, one func() T) []T {
	n := r.Int()
	r.miscounted = r.miscounted || n < 0 || n > r.Left()
	var out []T
	for len(out) < n && !r.miscounted && !r.Bad() {
		out = append(out, one())
	}
	return out
}
