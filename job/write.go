package job

import (
	"gleaner/api"
	"gleaner/pack"
)

// writer puts the bytes of a job together. Each piece is packed on its own: pack copies what stands ahead, which is long soon.
type writer struct {
	out []byte
}

func (w *writer) ints(n ...int) {
	w.out = append(w.out, pack.Int(nil, n...)...)
}

func (w *writer) texts(s ...string) {
	for _, x := range s {
		w.out = append(w.out, pack.Bytes(nil, []byte(x))...)
	}
}

func (w *writer) job(j api.Job) {
	w.ints(j.Fuel, j.Tasks, j.Main)
	w.ints(len(j.Args))
	w.ints(j.Args...)
	w.functions(j.Funcs...)
}

func (w *writer) functions(f ...api.Func) {
	w.ints(len(f))
	for _, x := range f {
		w.texts(x.Name)
		w.ints(x.Args, x.Locals)
		w.instructions(x.Code...)
	}
}

func (w *writer) instructions(c ...api.Ins) {
	w.ints(len(c))
	for _, i := range c {
		w.ints(i.Op, i.N)
	}
}
