package asm

import (
	"strconv"
	"strings"

	"gleaner/api"
	"gleaner/code"
)

// place is where a reader stands in a text: what it did not read yet, and the number of the line that it is at.
type place struct {
	rest string
	line int
}

// words goes on to the next line and answers what stands between its blanks, empty words too; false: there is no whole line.
func (p *place) words() ([]string, bool) {
	first, rest, whole := strings.Cut(p.rest, "\n")
	p.rest = rest
	p.line++
	return strings.Split(first, " "), whole
}

// use is a function's name that a line calls it by: instruction at of function in, or (in is -1) the line of main.
type use struct {
	name         string
	line, in, at int
}

// reader puts a job together from its text. Functions may be used ahead of their own lines, so that uses are kept until all are known.
type reader struct {
	place
	job  api.Job
	uses []use
}

// Read answers the job whose text s is; else the number of the first line that is wrong, and an error.
func Read(s string) (api.Job, int, api.Errno) {
	if len(s) > api.MaxText {
		return api.Job{}, 0, api.ErrLong
	}
	r := reader{place: place{rest: s}}
	if !r.head() || !r.body() || !r.tie() {
		return api.Job{}, r.line, api.ErrSyntax
	}
	return r.job, 0, api.OK
}

// head reads the two lines ahead of the functions; false: it went wrong at the line where the reader stands.
func (r *reader) head() bool {
	w, whole := r.words()
	if !whole || !r.takeJob(w) {
		return false
	}
	w, whole = r.words()
	return whole && r.takeMain(w)
}

// body reads the functions and the end; false: it went wrong at the line where the reader stands.
func (r *reader) body() bool {
	for {
		w, whole := r.words()
		switch {
		case !whole:
			return false
		case len(w) == 1 && w[0] == wordEnd:
			return r.atEnd()
		case !r.takeFunc(w) && !r.takeIns(w):
			return false
		}
	}
}

// atEnd steps to the line behind, if there is one: that is where a text that goes on is wrong.
func (r *reader) atEnd() bool {
	if r.rest == "" {
		return true
	}
	r.line++
	return false
}

func (r *reader) takeJob(w []string) bool {
	n, ok := numbers(w[1:])
	if !ok || w[0] != wordJob || len(n) != 2 {
		return false
	}
	r.job.Fuel, r.job.Tasks = n[0], n[1]
	return true
}

func (r *reader) takeMain(w []string) bool {
	if len(w) < 2 || w[0] != wordMain || !isName(w[1]) {
		return false
	}
	n, ok := numbers(w[2:])
	if !ok || len(n) > api.MaxArgs {
		return false
	}
	r.job.Args = n
	r.uses = append(r.uses, use{name: w[1], line: r.line, in: -1})
	return true
}

func (r *reader) takeFunc(w []string) bool {
	if len(w) != 4 || w[0] != wordFunc || !isName(w[1]) {
		return false
	}
	n, ok := numbers(w[2:])
	if !ok || find(w[1], r.job.Funcs) >= 0 || len(r.job.Funcs) == api.MaxFuncs {
		return false
	}
	// A copy of the name, so that the job does not hold on to the whole text.
	r.job.Funcs = append(r.job.Funcs, api.Func{Name: strings.Clone(w[1]), Args: n[0], Locals: n[1]})
	return true
}

// takeIns takes an instruction of the last function that was begun.
func (r *reader) takeIns(w []string) bool {
	in := len(r.job.Funcs) - 1
	if in < 0 || len(w) < 3 || w[0] != "" || w[1] != "" {
		return false
	}
	f := &r.job.Funcs[in]
	i, ok := instruction(w[2], w[3:])
	if !ok || len(f.Code) == api.MaxCode {
		return false
	}
	if i.Op == api.Spawn {
		r.uses = append(r.uses, use{name: w[3], line: r.line, in: in, at: len(f.Code)})
	}
	f.Code = append(f.Code, i)
	return true
}

// instruction answers the one with that word and with what stands behind it; which function a spawn's name means is not known yet.
func instruction(word string, behind []string) (api.Ins, bool) {
	op, ok := code.Op(word)
	switch {
	case !ok:
		return api.Ins{}, false
	case op == api.Spawn:
		return api.Ins{Op: op}, len(behind) == 1 && isName(behind[0])
	case !code.HasN(op):
		return api.Ins{Op: op}, len(behind) == 0
	}
	n, ok := numbers(behind)
	if !ok || len(n) != 1 {
		return api.Ins{}, false
	}
	return api.Ins{Op: op, N: n[0]}, true
}

// tie puts functions in the place of the names they are used by; false: there is none for the use at whose line the reader stands then.
func (r *reader) tie() bool {
	for _, u := range r.uses {
		n := find(u.name, r.job.Funcs)
		if n < 0 {
			r.line = u.line
			return false
		}
		if u.in < 0 {
			r.job.Main = n
		} else {
			r.job.Funcs[u.in].Code[u.at].N = n
		}
	}
	return true
}

// numbers reads words as numbers, each written as it would be printed.
func numbers(words []string) ([]int, bool) {
	var out []int
	for _, w := range words {
		n, err := strconv.Atoi(w)
		if err != nil || strconv.Itoa(n) != w {
			return nil, false
		}
		out = append(out, n)
	}
	return out, true
}
