package note

import (
	"gleaner/api"
	"gleaner/ident"
)

// maxNumber is the greatest Life and Epoch.
const maxNumber = 1<<31 - 1

// may answers whether there can be such a note, of one that has no more than its Kind has: what is not there is zero, which is never refused.
func may(n api.Note) bool {
	return len(parts(n.Kind)) > 0 &&
		within(api.MaxNodes-1, n.Node) &&
		within(maxNumber, n.Life, n.Epoch) &&
		ident.Valid(n.ID) &&
		within(api.MaxFuncs-1, n.Func) &&
		within(api.MaxArgs, len(n.Args)) &&
		mayResult(n.Result) &&
		mayView(n.View)
}

// mayResult answers whether a task can end with r.
func mayResult(r api.Result) bool {
	switch r.Err {
	case api.OK, api.ErrFail:
		return true
	}
	return r.Err >= api.ErrDiv && r.Err < api.ErrFail && r.Value == 0
}

// mayView answers whether a note can have v. Members that rise within their bounds are never more than MaxNodes.
func mayView(v api.View) bool {
	if !within(maxNumber, v.Epoch) {
		return false
	}
	last := -1
	for _, m := range v.Members {
		if m.Node <= last || !within(api.MaxNodes-1, m.Node) || !within(maxNumber, m.Life) {
			return false
		}
		last = m.Node
	}
	return true
}

// within answers whether all the numbers are from 0 to most.
func within(most int, n ...int) bool {
	for _, x := range n {
		if x < 0 || x > most {
			return false
		}
	}
	return true
}
