// Package promises has the tests of the document's promises, a file a chapter. They use nothing but the exported calls.
package promises

import (
	"math"
	"math/rand"
	"slices"

	"glebe/api"
	"glebe/op"
)

func o(kind, a int) api.Op { return api.Op{Kind: kind, A: a} }

// count is the document's example: a fiber gives numbers, main takes them and puts them out.
func count() []api.Func {
	return []api.Func{
		{Locals: 1, Code: []api.Op{
			o(api.Make, 1), o(api.Store, 0),
			o(api.Load, 0), o(api.Push, 7), o(api.Resume, 0), o(api.Put, 0),
			o(api.Load, 0), o(api.Push, 0), o(api.Resume, 0), o(api.Put, 0),
			o(api.Load, 0), o(api.Push, 0), o(api.Resume, 0), o(api.Return, 0),
		}},
		{Args: 1, Locals: 1, Code: []api.Op{
			o(api.Load, 0), o(api.Yield, 0), o(api.Pop, 0),
			o(api.Load, 0), o(api.Push, 1), o(api.Call, 2), o(api.Yield, 0), o(api.Pop, 0),
			o(api.Push, 99), o(api.Return, 0),
			o(api.Push, 5), o(api.Jump, 9),
		}},
		{Args: 2, Locals: 2, Code: []api.Op{o(api.Load, 0), o(api.Load, 1), o(api.Add, 0), o(api.Return, 0)}},
	}
}

// one is a program of one function without locals.
func one(code ...api.Op) []api.Func { return []api.Func{{Code: code}} }

// gives is the code of a function that is right whatever its Args are.
func gives() []api.Op { return []api.Op{o(api.Push, 1), o(api.Return, 0)} }

// with is the program count, changed.
func with(change func(p []api.Func)) []api.Func {
	p := count()
	change(p)
	return p
}

// far are numbers in and out of all bounds that there are.
func far() []int {
	return []int{math.MinInt, math.MinInt32, -1000, -2, -1, 0, 1, 2, 3, 4, 5, 6, 8, 9, 16, 17, 24, 25, 999, 1000, math.MaxInt32, math.MaxInt - 1, math.MaxInt}
}

// clone has what p has, in memory of its own.
func clone(p []api.Func) []api.Func {
	p = slices.Clone(p)
	for f := range p {
		p[f].Code = slices.Clone(p[f].Code)
	}
	return p
}

func samePrograms(p, q []api.Func) bool {
	return slices.EqualFunc(p, q, func(f, g api.Func) bool {
		return f.Args == g.Args && f.Locals == g.Locals && slices.Equal(f.Code, g.Code)
	})
}

// roomy has what p has, and behind each list spare room with something in it.
func roomy(p []api.Func) []api.Func {
	mark := o(-77, -78)
	var q []api.Func
	for _, f := range p {
		code := append(slices.Clone(f.Code), mark, mark, mark)
		q = append(q, api.Func{Args: f.Args, Locals: f.Locals, Code: code[:len(f.Code)]})
	}
	q = append(q, api.Func{Args: -79, Code: []api.Op{mark}}, api.Func{Locals: -80})
	return q[:len(p)]
}

// wholly is p with all its spare room.
func wholly(p []api.Func) []api.Func {
	q := slices.Clone(p[:cap(p)])
	for f := range q {
		q[f].Code = slices.Clone(q[f].Code[:cap(q[f].Code)])
	}
	return q
}

// cloneState has what s has, in memory of its own.
func cloneState(s api.State) api.State {
	s.Out = slices.Clone(s.Out)
	s.Fibers = slices.Clone(s.Fibers)
	for n := range s.Fibers {
		frames := slices.Clone(s.Fibers[n].Frames)
		for k := range frames {
			frames[k].Locals, frames[k].Stack = slices.Clone(frames[k].Locals), slices.Clone(frames[k].Stack)
		}
		s.Fibers[n].Frames = frames
	}
	return s
}

// roomyState has what s has, and behind each list spare room with something in it.
func roomyState(s api.State) api.State {
	more := func(l []int) []int { return append(slices.Clone(l), -81, -82, -83)[:len(l)] }
	var fibers []api.Fiber
	for _, b := range s.Fibers {
		var frames []api.Frame
		for _, x := range b.Frames {
			frames = append(frames, api.Frame{Func: x.Func, At: x.At, Locals: more(x.Locals), Stack: more(x.Stack)})
		}
		frames = append(frames, api.Frame{Func: -84, Locals: []int{-85}}, api.Frame{At: -86})
		fibers = append(fibers, api.Fiber{Frames: frames[:len(b.Frames)], Caller: b.Caller})
	}
	fibers = append(fibers, api.Fiber{Caller: -87}, api.Fiber{Caller: -88})
	return api.State{Fibers: fibers[:len(s.Fibers)], Now: s.Now, Out: more(s.Out)}
}

// whollyState is s with all its spare room.
func whollyState(s api.State) api.State {
	s.Out = s.Out[:cap(s.Out)]
	s.Fibers = slices.Clone(s.Fibers[:cap(s.Fibers)])
	for n := range s.Fibers {
		frames := slices.Clone(s.Fibers[n].Frames[:cap(s.Fibers[n].Frames)])
		for k, x := range frames {
			frames[k].Locals, frames[k].Stack = x.Locals[:cap(x.Locals)], x.Stack[:cap(x.Stack)]
		}
		s.Fibers[n].Frames = frames
	}
	return s
}

// drawn is a program drawn by r, whose ops are right but for some Makes; of many functions there are heights.
func drawn(r *rand.Rand) []api.Func {
	p := make([]api.Func, 1+r.Intn(4))
	for f := range p {
		if f > 0 {
			p[f].Args = 1
		}
		if f > 1 && r.Intn(3) == 0 {
			p[f].Args = r.Intn(3)
		}
		p[f].Locals = p[f].Args + r.Intn(2)
		p[f].Code = make([]api.Op, 2+r.Intn(8))
	}
	for f := range p {
		drawCode(r, p, f)
	}
	return p
}

// drawCode tends to ops that find what they take, and to a Return at the end.
func drawCode(r *rand.Rand, p []api.Func, f int) {
	code, height := p[f].Code, 0
	for at := range code {
		takes, leaves := 0, 0
		for range 4 {
			code[at] = drawnOp(r, len(p), p[f])
			takes, leaves, _ = op.Effect(p, code[at])
			if takes <= height && code[at].Kind != api.Return {
				break
			}
		}
		height = max(0, height-takes+leaves)
	}
	if last := len(code) - 1; r.Intn(4) > 0 {
		code[last-1], code[last] = o(api.Push, 1), o(api.Return, 0)
	}
}

func drawnOp(r *rand.Rand, funcs int, f api.Func) api.Op {
	kind := r.Intn(17)
	switch kind {
	case api.Push:
		return o(kind, r.Intn(1000))
	case api.Load, api.Store:
		if f.Locals == 0 {
			return o(api.Push, 0)
		}
		return o(kind, r.Intn(f.Locals))
	case api.Jump, api.Zero:
		return o(kind, r.Intn(len(f.Code)))
	case api.Call, api.Make:
		return o(kind, r.Intn(funcs))
	}
	return o(kind, 0)
}
