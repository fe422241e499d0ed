package promises

import "glebe/api"

// machine is chapter 7 said another way: it does steps of a right state, a copy of what it was handed.
type machine struct {
	p []api.Func
	s api.State
}

// begun is a program's first state, told by hand.
func begun(p []api.Func) api.State {
	return api.State{Fibers: []api.Fiber{{Frames: []api.Frame{{Locals: make([]int, p[0].Locals)}}, Caller: -1}}}
}

// after is the state behind one step; with an error it is none.
func after(p []api.Func, s api.State) (api.State, api.Errno) {
	if s.Now == -1 {
		return api.State{}, api.ErrOver
	}
	m := &machine{p, cloneState(s)}
	if e := m.do(); e != api.OK {
		return api.State{}, e
	}
	return m.s, api.OK
}

func (m *machine) fiber() *api.Fiber { return &m.s.Fibers[m.s.Now] }

func (m *machine) top() *api.Frame {
	frames := m.fiber().Frames
	return &frames[len(frames)-1]
}

func (m *machine) pop() int {
	x := m.top()
	v := x.Stack[len(x.Stack)-1]
	x.Stack = x.Stack[:len(x.Stack)-1]
	return v
}

func (m *machine) push(v int) { m.top().Stack = append(m.top().Stack, v) }

func (m *machine) do() api.Errno {
	x := m.p[m.top().Func].Code[m.top().At]
	m.top().At++
	switch x.Kind {
	case api.Push:
		m.push(x.A)
	case api.Pop:
		m.pop()
	case api.Load:
		m.push(m.top().Locals[x.A])
	case api.Store:
		m.top().Locals[x.A] = m.pop()
	case api.Add, api.Sub, api.Mul, api.Less, api.Same:
		upper := m.pop()
		m.push(reckoned(x.Kind, m.pop(), upper))
	case api.Jump:
		m.top().At = x.A
	case api.Zero:
		if m.pop() == 0 {
			m.top().At = x.A
		}
	case api.Call:
		return m.call(x.A)
	case api.Return:
		return m.giveBack(m.pop())
	case api.Make:
		if len(m.s.Fibers) >= api.MaxFibers {
			return api.ErrMany
		}
		m.s.Fibers = append(m.s.Fibers, api.Fiber{Frames: []api.Frame{{Func: x.A, Locals: make([]int, m.p[x.A].Locals)}}, Caller: -1})
		m.push(len(m.s.Fibers) - 1)
	case api.Resume:
		v := m.pop()
		return m.resume(m.pop(), v)
	case api.Yield:
		v, to := m.pop(), m.fiber().Caller
		if to == -1 {
			return api.ErrAlone
		}
		m.fiber().Caller = -1
		m.s.Now = to
		m.push(v)
	case api.Put:
		return m.put(m.pop())
	}
	return api.OK
}

func reckoned(kind, lower, upper int) int {
	truth := map[bool]int{true: 1}
	return map[int]int{api.Add: lower + upper, api.Sub: lower - upper, api.Mul: lower * upper, api.Less: truth[lower < upper], api.Same: truth[lower == upper]}[kind]
}

func (m *machine) put(v int) api.Errno {
	if len(m.s.Out) >= api.MaxOut {
		return api.ErrMany
	}
	m.s.Out = append(m.s.Out, v)
	return api.OK
}

func (m *machine) call(f int) api.Errno {
	if len(m.fiber().Frames) >= api.MaxFrames {
		return api.ErrMany
	}
	locals := make([]int, m.p[f].Locals)
	for k := m.p[f].Args - 1; k >= 0; k-- {
		locals[k] = m.pop()
	}
	m.fiber().Frames = append(m.fiber().Frames, api.Frame{Func: f, Locals: locals})
	return api.OK
}

func (m *machine) giveBack(v int) api.Errno {
	b := m.fiber()
	b.Frames = b.Frames[:len(b.Frames)-1]
	if len(b.Frames) == 0 {
		m.s.Now, b.Caller = b.Caller, -1
	}
	if m.s.Now == -1 {
		return m.put(v)
	}
	m.push(v)
	return api.OK
}

func (m *machine) resume(n, v int) api.Errno {
	if n < 0 || n >= len(m.s.Fibers) {
		return api.ErrNone
	}
	for k := m.s.Now; k != -1; k = m.s.Fibers[k].Caller {
		if k == n {
			return api.ErrBusy
		}
	}
	if len(m.s.Fibers[n].Frames) == 0 {
		return api.ErrBusy
	}
	m.s.Fibers[n].Caller, m.s.Now = m.s.Now, n
	if m.top().At == 0 {
		m.top().Locals[0] = v
	} else {
		m.push(v)
	}
	return api.OK
}
