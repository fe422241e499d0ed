// Package prog: programs: see doc/02-prog.md.
package prog

import (
	"glebe/api"
	"glebe/flow"
	"glebe/op"
)

// Check tells the first thing that is wrong with the program p.
func Check(p []api.Func) api.Errno {
	if len(p) > api.MaxFuncs {
		return api.ErrMany
	}
	if len(p) == 0 {
		return api.ErrNone
	}
	if p[0].Args != 0 {
		return api.ErrForm
	}
	// An op's error comes ahead of a height's, in a later function too.
	for f := range p {
		if e := op.Check(p, f); e != api.OK {
			return e
		}
	}
	for f := range p {
		if _, e := flow.Heights(p, f); e != api.OK {
			return e
		}
	}
	return api.OK
}

// Calls tells of each function of p whether it is f, or may come to be begun by f.
func Calls(p []api.Func, f int) ([]bool, api.Errno) {
	if e := Check(p); e != api.OK {
		return nil, e
	}
	if f < 0 || f >= len(p) {
		return nil, api.ErrNone
	}
	named := make([]bool, len(p))
	var visit func(g int)
	visit = func(g int) {
		if named[g] {
			return
		}
		named[g] = true
		for _, x := range p[g].Code {
			if x.Kind == api.Call || x.Kind == api.Make {
				visit(x.A)
			}
		}
	}
	visit(f)
	return named, api.OK
}
