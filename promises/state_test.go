package promises

import (
	"fmt"
	"math"
	"math/rand"
	"slices"
	"testing"

	"glebe/api"
	"glebe/flow"
	"glebe/prog"
	"glebe/state"
)

func isNoState(s api.State) bool { return len(s.Fibers) == 0 && s.Now == 0 && len(s.Out) == 0 }

func frame(f, at int, locals, stack []int) api.Frame {
	return api.Frame{Func: f, At: at, Locals: locals, Stack: stack}
}

func fiber(caller int, frames ...api.Frame) api.Fiber {
	return api.Fiber{Frames: frames, Caller: caller}
}

// four is a state of the program count: fiber 1 runs in a call, main waits for it, fiber 2 is fresh, fiber 3 has yielded.
func four() api.State {
	return api.State{
		Fibers: []api.Fiber{
			fiber(-1, frame(0, 5, []int{1}, nil)),
			fiber(0, frame(1, 6, []int{7}, nil), frame(2, 1, []int{7, 1}, []int{7})),
			fiber(-1, frame(1, 0, []int{0}, nil)),
			fiber(-1, frame(1, 2, []int{3}, nil)),
		},
		Now: 1,
		Out: []int{5},
	}
}

func TestE1Begin(t *testing.T) {
	for locals := range api.MaxLocals + 1 {
		p := with(func(p []api.Func) { p[0].Locals = max(1, locals) })
		if locals == 0 {
			p = many(2)
		}
		s, e := state.Begin(p)
		if e != api.OK || s.Now != 0 || len(s.Out) != 0 || len(s.Fibers) != 1 {
			t.Fatalf("%d locals: %v %d", locals, s, e)
		}
		b := s.Fibers[0]
		if b.Caller != -1 || len(b.Frames) != 1 {
			t.Fatalf("%d locals: %v", locals, b)
		}
		x := b.Frames[0]
		if x.Func != 0 || x.At != 0 || len(x.Stack) != 0 || !slices.Equal(x.Locals, make([]int, locals)) {
			t.Errorf("%d locals: %v", locals, x)
		}
		if e := state.Check(p, s); e != api.OK {
			t.Errorf("%d locals: Check tells %d", locals, e)
		}
	}
}

// wrongPrograms are programs that prog.Check refuses.
func wrongPrograms() []checked {
	return []checked{
		{"no program", nil, api.ErrNone},
		{"too many functions", many(6), api.ErrMany},
		{"Args of function 0", with(func(p []api.Func) { p[0].Args = 1 }), api.ErrForm},
		{"too many ops", with(func(p []api.Func) { p[2].Code = make([]api.Op, 25) }), api.ErrMany},
		{"too many locals", with(func(p []api.Func) { p[1].Locals = 5 }), api.ErrRange},
		{"no such kind", with(func(p []api.Func) { p[2].Code[0].Kind = 17 }), api.ErrKind},
		{"no heights", with(func(p []api.Func) { p[2].Code = nil }), api.ErrForm},
	}
}

func TestE1Errors(t *testing.T) {
	for _, row := range wrongPrograms() {
		if s, e := state.Begin(row.p); !isNoState(s) || e != row.want {
			t.Errorf("%s: %v %d, not %d", row.name, s, e, row.want)
		}
	}
}

type changed struct {
	name   string
	change func(s *api.State)
	want   api.Errno
}

func checkChanged(t *testing.T, p []api.Func, start func() api.State, rows []changed) {
	t.Helper()
	for _, row := range rows {
		s := start()
		row.change(&s)
		if e := state.Check(p, s); e != row.want {
			t.Errorf("%s: %d, not %d", row.name, e, row.want)
		}
	}
}

func TestE2ProgramFirst(t *testing.T) {
	for _, row := range wrongPrograms() {
		for _, s := range []api.State{four(), {}, {Fibers: make([]api.Fiber, 9)}, {Now: 7}} {
			if e := state.Check(row.p, s); e != row.want {
				t.Errorf("%s: %d, not %d", row.name, e, row.want)
			}
		}
	}
}

func TestE2Numbers(t *testing.T) {
	rows := []changed{
		{"as it is", func(s *api.State) {}, api.OK},
		{"six fibers", func(s *api.State) { s.Fibers = make([]api.Fiber, 6) }, api.ErrMany},
		{"very many fibers", func(s *api.State) { s.Fibers = make([]api.Fiber, 1<<20) }, api.ErrMany},
		{"five fibers", func(s *api.State) { s.Fibers = append(s.Fibers, fiber(-1)) }, api.OK},
		{"six fibers, all else right", func(s *api.State) { s.Fibers = append(s.Fibers, fiber(-1), fiber(-1)) }, api.ErrMany},
		{"seven frames", func(s *api.State) { s.Fibers[3].Frames = make([]api.Frame, 7) }, api.ErrMany},
		{"seven frames of main", func(s *api.State) { s.Fibers[0].Frames = make([]api.Frame, 7) }, api.ErrMany},
		{"six frames, but wrong", func(s *api.State) { s.Fibers[3].Frames = make([]api.Frame, 6) }, api.ErrForm},
		{"30 put out", func(s *api.State) { s.Out = make([]int, 30) }, api.OK},
		{"31 put out", func(s *api.State) { s.Out = make([]int, 31) }, api.ErrMany},
		{"none put out", func(s *api.State) { s.Out = nil }, api.OK},
		{"any numbers", func(s *api.State) {
			s.Out = []int{math.MinInt, -1, math.MaxInt}
			s.Fibers[3].Frames[0].Locals[0] = math.MinInt
			s.Fibers[1].Frames[1].Stack[0] = math.MaxInt
		}, api.OK},
		{"no fiber", func(s *api.State) { s.Fibers = nil }, api.ErrNone},
		{"no fiber, nobody runs", func(s *api.State) { s.Fibers, s.Now = nil, -1 }, api.ErrNone},
		{"Now -2", func(s *api.State) { s.Now = -2 }, api.ErrRange},
		{"Now 4", func(s *api.State) { s.Now = 4 }, api.ErrRange},
		{"Now far off", func(s *api.State) { s.Now = math.MinInt }, api.ErrRange},
		{"Caller -2", func(s *api.State) { s.Fibers[1].Caller = -2 }, api.ErrRange},
		{"Caller 4", func(s *api.State) { s.Fibers[1].Caller = 4 }, api.ErrRange},
		{"Caller of main", func(s *api.State) { s.Fibers[0].Caller = 4 }, api.ErrRange},
		{"Caller of the last one", func(s *api.State) { s.Fibers[3].Caller = math.MaxInt }, api.ErrRange},
	}
	checkChanged(t, count(), four, rows)
}

func TestE2Order(t *testing.T) {
	rows := []changed{
		{"ErrMany ahead of ErrNone", func(s *api.State) { s.Fibers, s.Out = nil, make([]int, 31) }, api.ErrMany},
		{"ErrMany ahead of ErrRange", func(s *api.State) { s.Now, s.Out = 9, make([]int, 31) }, api.ErrMany},
		{"frames ahead of ErrRange", func(s *api.State) { s.Now, s.Fibers[3].Frames = 9, make([]api.Frame, 7) }, api.ErrMany},
		{"ErrMany ahead of ErrForm", func(s *api.State) { s.Fibers[0].Frames, s.Out = nil, make([]int, 31) }, api.ErrMany},
		{"ErrNone ahead of ErrRange", func(s *api.State) { s.Fibers, s.Now = nil, 3 }, api.ErrNone},
		{"Now ahead of ErrForm", func(s *api.State) { s.Fibers[0].Frames, s.Now = nil, -2 }, api.ErrRange},
		{"the last Caller ahead of the first frame", func(s *api.State) { s.Fibers[0].Frames[0].Func, s.Fibers[3].Caller = 9, 9 }, api.ErrRange},
	}
	checkChanged(t, count(), four, rows)
}

func TestE2Frames(t *testing.T) {
	fit := func(f, at, locals int) func(s *api.State) {
		return func(s *api.State) { s.Fibers[3].Frames[0] = frame(f, at, make([]int, locals), nil) }
	}
	rows := []changed{
		{"no such function", fit(3, 2, 1), api.ErrForm},
		{"function -1", fit(-1, 2, 1), api.ErrForm},
		{"no locals", fit(1, 2, 0), api.ErrForm},
		{"one local more", fit(1, 2, 2), api.ErrForm},
		{"no such op", fit(1, 12, 1), api.ErrForm},
		{"op -1", fit(1, -1, 1), api.ErrForm},
		{"far behind the last op", fit(1, math.MaxInt, 1), api.ErrForm},
		{"an op to which one never comes", fit(1, 11, 1), api.ErrForm},
		{"behind the other Yield", fit(1, 7, 1), api.OK},
		{"at the Yield", fit(1, 1, 1), api.ErrForm},
		{"one behind", fit(1, 3, 1), api.ErrForm},
		{"behind a Resume", fit(0, 5, 1), api.ErrForm},
		{"behind a Call", fit(1, 6, 1), api.ErrForm},
		{"fresh", fit(1, 0, 1), api.OK},
		{"fresh, but of no Args", fit(0, 0, 1), api.ErrForm},
		{"fresh, but of two Args", fit(2, 0, 2), api.ErrForm},
		{"fresh, but with a local", func(s *api.State) { s.Fibers[2].Frames[0].Locals[0] = 1 }, api.ErrForm},
		{"fresh, but with a local below 0", func(s *api.State) { s.Fibers[2].Frames[0].Locals[0] = -1 }, api.ErrForm},
		{"fresh, but with a value", func(s *api.State) { s.Fibers[2].Frames[0].Stack = []int{0} }, api.ErrForm},
		{"fresh, but with a frame below", func(s *api.State) {
			s.Fibers[2].Frames = []api.Frame{frame(1, 6, []int{0}, nil), frame(1, 0, []int{0}, nil)}
		}, api.ErrForm},
		{"fresh, but with a frame above", func(s *api.State) {
			s.Fibers[2].Frames = append(s.Fibers[2].Frames, frame(1, 2, []int{0}, nil))
		}, api.ErrForm},
		{"fresh twice", func(s *api.State) { s.Fibers[3] = s.Fibers[2] }, api.OK},
		{"yielded, and what it waits for is there", func(s *api.State) { s.Fibers[3].Frames[0].Stack = []int{1} }, api.ErrForm},
		{"main waits behind the next Resume", func(s *api.State) { s.Fibers[0].Frames[0].At = 9 }, api.OK},
		{"main waits behind the last Resume", func(s *api.State) { s.Fibers[0].Frames[0].At = 13 }, api.OK},
		{"main waits at no such op", func(s *api.State) { s.Fibers[0].Frames[0].At = 14 }, api.ErrForm},
		{"main waits at the Resume", func(s *api.State) { s.Fibers[0].Frames[0].At = 4 }, api.ErrForm},
		{"main waits behind a Put", func(s *api.State) { s.Fibers[0].Frames[0].At = 6 }, api.ErrForm},
		{"main waits behind a Make", func(s *api.State) { s.Fibers[0].Frames[0].At = 1 }, api.ErrForm},
		{"main waits at its beginning", func(s *api.State) { s.Fibers[0].Frames[0].At = 0 }, api.ErrForm},
		{"main waits, and looks fresh", func(s *api.State) { s.Fibers[0].Frames[0] = frame(1, 0, []int{0}, nil) }, api.ErrForm},
		{"main waits, and what it waits for is there", func(s *api.State) { s.Fibers[0].Frames[0].Stack = []int{1} }, api.ErrForm},
		{"main waits behind a Yield", func(s *api.State) { s.Fibers[0].Frames[0] = frame(1, 2, []int{1}, nil) }, api.ErrForm},
		{"main is of another function, behind its Call", func(s *api.State) {
			s.Fibers[0].Frames = []api.Frame{frame(1, 6, []int{1}, nil), frame(2, 1, []int{7, 1}, []int{7})}
		}, api.ErrForm},
		{"who runs has too little", func(s *api.State) { s.Fibers[1].Frames[1].Stack = nil }, api.ErrForm},
		{"who runs has too much", func(s *api.State) { s.Fibers[1].Frames[1].Stack = []int{1, 2} }, api.ErrForm},
		{"who runs is one further", func(s *api.State) { s.Fibers[1].Frames[1] = frame(2, 2, []int{0, 0}, []int{1, 2}) }, api.OK},
		{"who runs is at the beginning", func(s *api.State) { s.Fibers[1].Frames[1] = frame(2, 0, []int{4, 5}, nil) }, api.OK},
		{"who runs is in another function than was called", func(s *api.State) { s.Fibers[1].Frames[1] = frame(1, 0, []int{4}, nil) }, api.ErrForm},
		{"who runs is called from a Yield", func(s *api.State) { s.Fibers[1].Frames[0].At = 7 }, api.ErrForm},
		{"who has called is at the Call", func(s *api.State) { s.Fibers[1].Frames[0] = frame(1, 5, []int{7}, []int{7}) }, api.ErrForm},
		{"who has called has what it waits for", func(s *api.State) { s.Fibers[1].Frames[0].Stack = []int{1} }, api.ErrForm},
		{"who has called is at its beginning", func(s *api.State) { s.Fibers[1].Frames[0].At = 0 }, api.ErrForm},
		{"who runs has called nobody", func(s *api.State) { s.Fibers[1].Frames = []api.Frame{frame(1, 6, []int{7}, []int{8})} }, api.OK},
		{"who runs waits for nobody's call", func(s *api.State) { s.Fibers[1].Frames = s.Fibers[1].Frames[:1] }, api.ErrForm},
		{"who runs looks fresh", func(s *api.State) { s.Fibers[1].Frames = []api.Frame{frame(1, 0, []int{0}, nil)} }, api.OK},
		{"who runs is a function of no Args", func(s *api.State) { s.Fibers[1].Frames = []api.Frame{frame(0, 0, []int{6}, nil)} }, api.OK},
	}
	checkChanged(t, count(), four, rows)
}

func TestE2Line(t *testing.T) {
	rows := []changed{
		{"nobody runs, but main waits", func(s *api.State) { s.Now = -1 }, api.ErrForm},
		{"main runs, but fiber 1 has a Caller", func(s *api.State) { s.Now, s.Fibers[0].Frames[0].Stack = 0, []int{1} }, api.ErrForm},
		{"a fresh one runs", func(s *api.State) { s.Now = 2 }, api.ErrForm},
		{"Now has no Caller", func(s *api.State) { s.Fibers[1].Caller = -1 }, api.ErrForm},
		{"Now has itself", func(s *api.State) { s.Fibers[1].Caller = 1 }, api.ErrForm},
		{"main has a Caller", func(s *api.State) { s.Fibers[0].Caller = 1 }, api.ErrForm},
		{"main has a Caller that does not go on", func(s *api.State) { s.Fibers[0].Caller = 3 }, api.ErrForm},
		{"Now's Caller is not main", func(s *api.State) {
			s.Fibers[1].Caller, s.Fibers[3].Frames[0] = 3, frame(0, 5, []int{1}, nil)
		}, api.ErrForm},
		{"a fresh one has a Caller", func(s *api.State) { s.Fibers[2].Caller = 0 }, api.ErrForm},
		{"who has yielded has a Caller", func(s *api.State) { s.Fibers[3].Caller = 1 }, api.ErrForm},
		{"who is done has a Caller", func(s *api.State) { s.Fibers[3] = fiber(0) }, api.ErrForm},
		{"Now has no frames", func(s *api.State) { s.Fibers[1].Frames = nil }, api.ErrForm},
		{"main has no frames", func(s *api.State) { s.Fibers[0].Frames = nil }, api.ErrForm},
		{"two are done", func(s *api.State) { s.Fibers[2].Frames, s.Fibers[3].Frames = nil, []api.Frame{} }, api.OK},
		{"main runs", func(s *api.State) {
			s.Now, s.Fibers[0].Frames[0].Stack = 0, []int{1}
			s.Fibers[1] = fiber(-1)
		}, api.OK},
		{"main runs, and looks like a fresh one", func(s *api.State) { *s = api.State{Fibers: []api.Fiber{fiber(-1, frame(1, 0, []int{0}, nil))}} }, api.OK},
		{"all is done", func(s *api.State) { s.Now, s.Fibers[0], s.Fibers[1] = -1, fiber(-1), fiber(-1) }, api.OK},
		{"all is done, but main is fresh", func(s *api.State) { s.Now, s.Fibers[0], s.Fibers[1] = -1, s.Fibers[2], fiber(-1) }, api.ErrForm},
		{"all is done, but main has yielded", func(s *api.State) { s.Now, s.Fibers[0], s.Fibers[1] = -1, s.Fibers[3], fiber(-1) }, api.ErrForm},
		{"all is done, but one has a Caller", func(s *api.State) { s.Now, s.Fibers[0], s.Fibers[1] = -1, fiber(-1), fiber(0) }, api.ErrForm},
		{"all is done, but main has a Caller", func(s *api.State) { s.Now, s.Fibers[0], s.Fibers[1] = -1, fiber(1), fiber(-1) }, api.ErrForm},
		{"all is done, but one waits behind a Resume", func(s *api.State) { s.Now, s.Fibers[0], s.Fibers[1] = -1, fiber(-1), s.Fibers[0] }, api.ErrForm},
		{"four go on", func(s *api.State) {
			waits := frame(0, 5, []int{1}, nil)
			s.Fibers = []api.Fiber{fiber(-1, waits), fiber(3, frame(1, 0, []int{4}, nil)), fiber(0, waits), fiber(2, waits)}
		}, api.OK},
		{"four go on, and one of them looks fresh", func(s *api.State) {
			waits, looks := frame(0, 5, []int{1}, nil), frame(1, 0, []int{0}, nil)
			s.Fibers = []api.Fiber{fiber(-1, waits), fiber(3, looks), fiber(0, waits), fiber(2, looks)}
		}, api.ErrForm},
		{"a ring beside main", func(s *api.State) {
			waits := frame(0, 5, []int{1}, nil)
			s.Fibers = []api.Fiber{fiber(-1, waits), fiber(3, frame(1, 0, []int{4}, nil)), fiber(1, waits), fiber(2, waits)}
		}, api.ErrForm},
		{"a ring with main in it", func(s *api.State) {
			waits := frame(0, 5, []int{1}, nil)
			s.Fibers = []api.Fiber{fiber(1, waits), fiber(3, frame(1, 0, []int{4}, nil)), fiber(0, waits), fiber(2, waits)}
		}, api.ErrForm},
	}
	checkChanged(t, count(), four, rows)
}

// E2: MaxFrames frames, each one called by the one below; a Call's function must be that of the frame above.
func TestE2Calls(t *testing.T) {
	p := []api.Func{
		{Code: []api.Op{o(api.Push, 3), o(api.Call, 0), o(api.Add, 0), o(api.Call, 1), o(api.Add, 0), o(api.Return, 0)}},
		{Code: []api.Op{o(api.Call, 0), o(api.Return, 0)}},
	}
	deep := func() api.State {
		zero, other := frame(0, 2, nil, []int{3}), frame(0, 4, nil, []int{3})
		return api.State{Fibers: []api.Fiber{fiber(-1, zero, zero, other, frame(1, 1, nil, nil), other, frame(1, 0, nil, nil))}}
	}
	rows := []changed{
		{"six frames", func(s *api.State) {}, api.OK},
		{"seven frames", func(s *api.State) { s.Fibers[0].Frames = append(s.Fibers[0].Frames[:1], s.Fibers[0].Frames...) }, api.ErrMany},
		{"another function was called", func(s *api.State) { s.Fibers[0].Frames[1].At = 4 }, api.ErrForm},
		{"another function above", func(s *api.State) { s.Fibers[0].Frames[3] = s.Fibers[0].Frames[2] }, api.ErrForm},
		{"too much below", func(s *api.State) { s.Fibers[0].Frames[2].Stack = []int{3, 4} }, api.ErrForm},
		{"too little at the bottom", func(s *api.State) { s.Fibers[0].Frames[0].Stack = nil }, api.ErrForm},
	}
	checkChanged(t, p, deep, rows)
}

// E2: the op ahead is the one that stands there, whether one comes to it or not.
func TestE2OpAhead(t *testing.T) {
	p := []api.Func{
		{Code: []api.Op{o(api.Push, 1), o(api.Jump, 3), o(api.Call, 1), o(api.Return, 0)}},
		{Code: gives()},
	}
	s := api.State{Fibers: []api.Fiber{fiber(-1, frame(0, 3, nil, nil), frame(1, 0, nil, nil))}}
	if e := state.Check(p, s); e != api.OK {
		t.Errorf("behind a Call to which one never comes: %d", e)
	}
	p[0].Code[2] = o(api.Push, 1)
	if e := state.Check(p, s); e != api.ErrForm {
		t.Errorf("behind a Push: %d", e)
	}
}

// lineOf goes from Now from Caller to Caller; false, if it does not come to an end at fiber 0.
func lineOf(s api.State) ([]int, bool) {
	var l []int
	for n := s.Now; n != -1; n = s.Fibers[n].Caller {
		if len(l) == len(s.Fibers) {
			return nil, false
		}
		l = append(l, n)
	}
	return l, len(l) == 0 || l[len(l)-1] == 0
}

// isMade tells whether b is as a Make leaves it.
func isMade(p []api.Func, b api.Fiber) bool {
	for f := range p {
		made := fiber(-1, frame(f, 0, make([]int, p[f].Locals), nil))
		if p[f].Args == 1 && fmt.Sprint(made) == fmt.Sprint(b) {
			return true
		}
	}
	return false
}

// fits tells whether frame k of fiber n has what E2 asks of its place.
func fits(p []api.Func, s api.State, n, k int, goesOn bool) bool {
	frames := s.Fibers[n].Frames
	x := frames[k]
	heights, _ := flow.Heights(p, x.Func)
	isTop := k == len(frames)-1
	if isTop && n == s.Now {
		return len(x.Stack) == heights[x.At]
	}
	if x.At == 0 || len(x.Stack)+1 != heights[x.At] {
		return false
	}
	ahead := p[x.Func].Code[x.At-1]
	if !isTop {
		return ahead.Kind == api.Call && ahead.A == frames[k+1].Func
	}
	return goesOn && ahead.Kind == api.Resume || !goesOn && ahead.Kind == api.Yield
}

// isWell is what E2 tells by ErrForm, said another way.
func isWell(p []api.Func, s api.State) bool {
	line, ok := lineOf(s)
	for n, b := range s.Fibers {
		goesOn := slices.Contains(line, n)
		ok = ok && (goesOn || b.Caller == -1)
		ok = ok && (!goesOn || len(b.Frames) > 0)
		ok = ok && (s.Now != -1 || n > 0 || len(b.Frames) == 0)
		for k, x := range b.Frames {
			if x.Func < 0 || x.Func >= len(p) || len(x.Locals) != p[x.Func].Locals || x.At < 0 || x.At >= len(p[x.Func].Code) {
				return false
			}
			heights, _ := flow.Heights(p, x.Func)
			ok = ok && heights[x.At] != -1
			ok = ok && (!goesOn && isMade(p, b) || fits(p, s, n, k, goesOn))
		}
	}
	return ok
}

// judged is E2 said another way.
func judged(p []api.Func, s api.State) api.Errno {
	if e := prog.Check(p); e != api.OK {
		return e
	}
	many, off := len(s.Fibers) > 5 || len(s.Out) > 30, s.Now < -1 || s.Now >= len(s.Fibers)
	for _, b := range s.Fibers {
		many = many || len(b.Frames) > 6
		off = off || b.Caller < -1 || b.Caller >= len(s.Fibers)
	}
	switch {
	case many:
		return api.ErrMany
	case len(s.Fibers) == 0:
		return api.ErrNone
	case off:
		return api.ErrRange
	case !isWell(p, s):
		return api.ErrForm
	}
	return api.OK
}

// reachedStates are states to which the program comes, the first one among them.
func reachedStates(p []api.Func, steps int) []api.State {
	s, e := begun(p), api.OK
	var l []api.State
	for ; e == api.OK && len(l) < steps; s, e = after(p, s) {
		l = append(l, s)
	}
	return l
}

// disturb changes something of s, mostly so that it is not as it must be.
func disturb(r *rand.Rand, p []api.Func, s *api.State) {
	number := func(length int) int { return r.Intn(length+3) - 2 }
	if len(s.Fibers) == 0 {
		return
	}
	b := &s.Fibers[r.Intn(len(s.Fibers))]
	switch r.Intn(9) {
	case 0:
		s.Now = number(len(s.Fibers))
	case 1:
		b.Caller = number(len(s.Fibers))
	case 2:
		b.Frames = nil
	case 3:
		s.Fibers = s.Fibers[:r.Intn(len(s.Fibers)+1)]
	case 4:
		f := r.Intn(len(p))
		s.Fibers = append(s.Fibers, fiber(-1, frame(f, 0, make([]int, p[f].Locals), nil)))
	case 5:
		s.Out = make([]int, 28+r.Intn(5))
	case 6:
		f := r.Intn(len(p))
		b.Frames = append(b.Frames, frame(f, r.Intn(len(p[f].Code)), make([]int, p[f].Locals), make([]int, r.Intn(3))))
	default:
		if len(b.Frames) > 0 {
			disturbFrame(r, p, &b.Frames[r.Intn(len(b.Frames))])
		}
	}
}

func disturbFrame(r *rand.Rand, p []api.Func, x *api.Frame) {
	switch r.Intn(7) {
	case 0:
		x.Func = r.Intn(len(p)+2) - 1
	case 1:
		x.Func = r.Intn(len(p))
		x.Locals = make([]int, p[x.Func].Locals)
	case 2:
		x.At += r.Intn(3) - 1
	case 3:
		x.At = r.Intn(26) - 1
	case 4:
		x.Stack = make([]int, r.Intn(4))
	case 5:
		x.Locals = make([]int, r.Intn(5))
	case 6:
		for k := range x.Locals {
			x.Locals[k] = r.Intn(2)
		}
	}
}

// E2: what comes of a right state is right; of others Check tells what the promise tells, said another way.
func TestE2Drawn(t *testing.T) {
	r := rand.New(rand.NewSource(14))
	answers := map[api.Errno]int{}
	for range 3000 {
		p := built(r)
		states := reachedStates(p, 60)
		for _, s := range states {
			if e := state.Check(p, s); e != api.OK {
				t.Fatalf("%v at %v: %d", p, s, e)
			}
		}
		for range 10 {
			s := cloneState(states[r.Intn(len(states))])
			for range 1 + r.Intn(3) {
				disturb(r, p, &s)
			}
			want := judged(p, s)
			if e := state.Check(p, s); e != want {
				t.Fatalf("%v at %v: %d, not %d", p, s, e, want)
			}
			answers[want]++
		}
	}
	for _, e := range []api.Errno{api.OK, api.ErrForm, api.ErrMany, api.ErrRange, api.ErrNone} {
		if answers[e] < 100 {
			t.Errorf("%d was told only %d times", e, answers[e])
		}
	}
}
