// Package own has what is handed in, in memory of its own: so an answer shares none with an argument.
package own

import (
	"slices"

	"glebe/api"
)

// State is s anew, down to its last list.
func State(s api.State) api.State {
	return api.State{Fibers: each(s.Fibers, fiber), Now: s.Now, Out: slices.Clone(s.Out)}
}

func fiber(b api.Fiber) api.Fiber {
	return api.Fiber{Frames: each(b.Frames, frame), Caller: b.Caller}
}

func frame(x api.Frame) api.Frame {
	return api.Frame{Func: x.Func, At: x.At, Locals: slices.Clone(x.Locals), Stack: slices.Clone(x.Stack)}
}

func each[T any](l []T, anew func(T) T) []T {
	l = slices.Clone(l)
	for i := range l {
		l[i] = anew(l[i])
	}
	return l
}
