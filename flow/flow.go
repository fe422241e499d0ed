// Package flow: heights: see doc/03-flow.md.
package flow

import (
	"iter"

	"glebe/api"
	"glebe/op"
)

// never is the height of an op to which one never comes.
const never = -1

// Heights tells of each op of function f of p how many values the stack has ahead of it.
func Heights(p []api.Func, f int) ([]int, api.Errno) {
	if e := op.Check(p, f); e != api.OK {
		return nil, e
	}
	w := walk{prog: p, code: p[f].Code, heights: make([]int, len(p[f].Code))}
	for at := range w.heights {
		w.heights[at] = never
	}
	if !w.come(0, 0) {
		return nil, api.ErrForm
	}
	return w.heights, api.OK
}

// walk goes all the ways through a function's code.
type walk struct {
	prog    []api.Func
	code    []api.Op
	heights []int
}

// come tells whether one may come to the op at with that height, and go on from there on all ways.
// It goes no deeper than there are ops, for each one is gone on from just once.
func (w walk) come(at, height int) bool {
	if at >= len(w.code) {
		return false
	}
	if w.heights[at] != never {
		return w.heights[at] == height
	}
	w.heights[at] = height
	after, ok := w.behind(w.code[at], height)
	if !ok {
		return false
	}
	for next := range following(w.code[at], at) {
		if !w.come(next, after) {
			return false
		}
	}
	return true
}

// behind tells the height behind the op x, and whether x may be done at all with the height ahead of it.
func (w walk) behind(x api.Op, height int) (int, bool) {
	takes, leaves, e := op.Effect(w.prog, x)
	if e != api.OK || takes > height {
		return 0, false
	}
	if x.Kind == api.Return && height > 1 {
		return 0, false
	}
	after := height - takes + leaves
	return after, after <= api.MaxStack
}

// following goes through the ops that may come next behind the op x, which stands at at.
func following(x api.Op, at int) iter.Seq[int] {
	return func(yield func(int) bool) {
		switch x.Kind {
		case api.Return:
		case api.Jump:
			yield(x.A)
		case api.Zero:
			if yield(x.A) {
				yield(at + 1)
			}
		default:
			yield(at + 1)
		}
	}
}
