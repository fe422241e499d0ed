package promises

import (
	"fmt"
	"math"
	"math/rand"
	"slices"
	"testing"

	"glebe/api"
	"glebe/state"
	"glebe/step"
)

const lowest, highest = math.MinInt, math.MaxInt

// shown is a state as text: two are the same, if their texts are.
func shown(s api.State) string { return fmt.Sprintf("%+v", s) }

// becomes tells a fault, unless one step makes want of s.
func becomes(t *testing.T, name string, p []api.Func, s, want api.State) {
	t.Helper()
	after, e := step.Do(p, s)
	if e != api.OK || shown(after) != shown(want) {
		t.Errorf("%s: %s %d, not %s", name, shown(after), e, shown(want))
	}
}

// stays tells a fault, unless s can't go on for the reason want.
func stays(t *testing.T, name string, p []api.Func, s api.State, want api.Errno) {
	t.Helper()
	if after, e := step.Do(p, s); !isNoState(after) || e != want {
		t.Errorf("%s: %s %d, not %d", name, shown(after), e, want)
	}
}

// G1, G2: the document's example, by its 28 steps.
func TestG1Example(t *testing.T) {
	behind := map[int]api.State{
		1:  {Fibers: []api.Fiber{fiber(-1, frame(0, 1, []int{0}, []int{1})), fiber(-1, frame(1, 0, []int{0}, nil))}},
		5:  {Fibers: []api.Fiber{fiber(-1, frame(0, 5, []int{1}, nil)), fiber(0, frame(1, 0, []int{7}, nil))}, Now: 1},
		6:  {Fibers: []api.Fiber{fiber(-1, frame(0, 5, []int{1}, nil)), fiber(0, frame(1, 1, []int{7}, []int{7}))}, Now: 1},
		7:  {Fibers: []api.Fiber{fiber(-1, frame(0, 5, []int{1}, []int{7})), fiber(-1, frame(1, 2, []int{7}, nil))}},
		8:  {Fibers: []api.Fiber{fiber(-1, frame(0, 6, []int{1}, nil)), fiber(-1, frame(1, 2, []int{7}, nil))}, Out: []int{7}},
		11: {Fibers: []api.Fiber{fiber(-1, frame(0, 9, []int{1}, nil)), fiber(0, frame(1, 2, []int{7}, []int{0}))}, Now: 1, Out: []int{7}},
		15: {Fibers: []api.Fiber{fiber(-1, frame(0, 9, []int{1}, nil)), fiber(0, frame(1, 6, []int{7}, nil), frame(2, 0, []int{7, 1}, nil))}, Now: 1, Out: []int{7}},
		19: {Fibers: []api.Fiber{fiber(-1, frame(0, 9, []int{1}, nil)), fiber(0, frame(1, 6, []int{7}, []int{8}))}, Now: 1, Out: []int{7}},
		27: {Fibers: []api.Fiber{fiber(-1, frame(0, 13, []int{1}, []int{99})), fiber(-1)}, Out: []int{7, 8}},
		28: {Fibers: []api.Fiber{fiber(-1), fiber(-1)}, Now: -1, Out: []int{7, 8, 99}},
	}
	s := begun(count())
	for n := 1; n <= 28; n++ {
		after, e := step.Do(count(), s)
		if e != api.OK {
			t.Fatalf("step %d: %d", n, e)
		}
		if want, ok := behind[n]; ok && shown(after) != shown(want) {
			t.Errorf("behind step %d: %s, not %s", n, shown(after), shown(want))
		}
		s = after
	}
	stays(t, "all is done", count(), s, api.ErrOver)
}

func TestG1Errors(t *testing.T) {
	for _, row := range wrongPrograms() {
		for _, s := range []api.State{four(), {}, {Now: -1}} {
			stays(t, row.name, row.p, s, row.want)
		}
	}
	rows := []changed{
		{"too many put out", func(s *api.State) { s.Out = make([]int, 31) }, api.ErrMany},
		{"no fibers", func(s *api.State) { s.Fibers = nil }, api.ErrNone},
		{"no fibers, nobody runs", func(s *api.State) { s.Fibers, s.Now = nil, -1 }, api.ErrNone},
		{"Now is none", func(s *api.State) { s.Now = 4 }, api.ErrRange},
		{"nobody runs, but main waits", func(s *api.State) { s.Now = -1 }, api.ErrForm},
		{"who runs has too little", func(s *api.State) { s.Fibers[1].Frames[1].Stack = nil }, api.ErrForm},
		{"another one is not as it must be", func(s *api.State) { s.Fibers[3].Frames[0].At = 1 }, api.ErrForm},
		{"all is done", func(s *api.State) { s.Now, s.Fibers[0], s.Fibers[1] = -1, fiber(-1), fiber(-1) }, api.ErrOver},
	}
	for _, row := range rows {
		s := four()
		row.change(&s)
		stays(t, row.name, count(), s, row.want)
	}
}

// short is a program with the op x at its op 3, where two values are on the stack; one is there at op 1, and at op 4 whatever x leaves.
func short(x api.Op) []api.Func {
	return []api.Func{{Locals: 2, Code: []api.Op{o(api.Push, 1), o(api.Push, 1), o(api.Jump, 3), x, o(api.Jump, 4)}}}
}

func TestG1Reckons(t *testing.T) {
	rows := []struct{ kind, lower, upper, want int }{
		{api.Add, 5, 6, 11},
		{api.Add, highest, 1, lowest},
		{api.Add, lowest, lowest, 0},
		{api.Sub, 5, 7, -2},
		{api.Sub, 7, 5, 2},
		{api.Sub, lowest, 1, highest},
		{api.Sub, 0, lowest, lowest},
		{api.Mul, 5, 6, 30},
		{api.Mul, -5, 6, -30},
		{api.Mul, highest, 2, -2},
		{api.Mul, lowest, -1, lowest},
		{api.Mul, 1 << 32, 1 << 31, lowest},
		{api.Mul, 1 << 32, 1 << 32, 0},
		{api.Less, 5, 6, 1},
		{api.Less, 6, 5, 0},
		{api.Less, 6, 6, 0},
		{api.Less, -1, 0, 1},
		{api.Less, lowest, highest, 1},
		{api.Less, highest, lowest, 0},
		{api.Same, 5, 6, 0},
		{api.Same, 6, 6, 1},
		{api.Same, -1, 1, 0},
		{api.Same, lowest, lowest, 1},
		{api.Same, 1, 1<<32 + 1, 0},
	}
	for _, row := range rows {
		s := api.State{Fibers: []api.Fiber{fiber(-1, frame(0, 3, []int{30, 40}, []int{row.lower, row.upper}))}, Out: []int{1}}
		want := api.State{Fibers: []api.Fiber{fiber(-1, frame(0, 4, []int{30, 40}, []int{row.want}))}, Out: []int{1}}
		becomes(t, fmt.Sprint(row), short(o(row.kind, 0)), s, want)
	}
}

// G1: the other ops that stay in their frame.
func TestG1Stays(t *testing.T) {
	rows := []struct {
		x    api.Op
		had  []int
		want api.Frame
	}{
		{o(api.Push, 999), []int{5, 6}, frame(0, 4, []int{30, 40}, []int{5, 6, 999})},
		{o(api.Push, 0), []int{5, 6}, frame(0, 4, []int{30, 40}, []int{5, 6, 0})},
		{o(api.Pop, 0), []int{5, 6}, frame(0, 4, []int{30, 40}, []int{5})},
		{o(api.Load, 0), []int{5, 6}, frame(0, 4, []int{30, 40}, []int{5, 6, 30})},
		{o(api.Load, 1), []int{5, 6}, frame(0, 4, []int{30, 40}, []int{5, 6, 40})},
		{o(api.Store, 0), []int{5, 6}, frame(0, 4, []int{6, 40}, []int{5})},
		{o(api.Store, 1), []int{5, lowest}, frame(0, 4, []int{30, lowest}, []int{5})},
		{o(api.Jump, 4), []int{5, 6}, frame(0, 4, []int{30, 40}, []int{5, 6})},
		{o(api.Jump, 3), []int{5, 6}, frame(0, 3, []int{30, 40}, []int{5, 6})},
		{o(api.Jump, 2), []int{5, 6}, frame(0, 2, []int{30, 40}, []int{5, 6})},
		{o(api.Zero, 4), []int{5, 0}, frame(0, 4, []int{30, 40}, []int{5})},
		{o(api.Zero, 4), []int{5, 1}, frame(0, 4, []int{30, 40}, []int{5})},
		{o(api.Zero, 1), []int{5, 0}, frame(0, 1, []int{30, 40}, []int{5})},
		{o(api.Zero, 1), []int{5, 1}, frame(0, 4, []int{30, 40}, []int{5})},
		{o(api.Zero, 1), []int{0, -1}, frame(0, 4, []int{30, 40}, []int{0})},
		{o(api.Zero, 1), []int{0, lowest}, frame(0, 4, []int{30, 40}, []int{0})},
		{o(api.Zero, 1), []int{0, 1 << 32}, frame(0, 4, []int{30, 40}, []int{0})},
	}
	for _, row := range rows {
		s := api.State{Fibers: []api.Fiber{fiber(-1, frame(0, 3, []int{30, 40}, row.had))}, Out: []int{1}}
		becomes(t, fmt.Sprint(row), short(row.x), s, api.State{Fibers: []api.Fiber{fiber(-1, row.want)}, Out: []int{1}})
	}
}

// calls is a program of which function 0 calls all others, and function 3 itself.
func calls() []api.Func {
	push, pop := o(api.Push, 1), o(api.Pop, 0)
	return []api.Func{
		{Code: []api.Op{push, push, push, push, push, o(api.Call, 1), pop, o(api.Call, 2), pop, push, o(api.Call, 3), pop, o(api.Call, 4), o(api.Return, 0)}},
		{Args: 4, Locals: 4, Code: gives()},
		{Args: 0, Locals: 2, Code: gives()},
		{Args: 1, Locals: 4, Code: []api.Op{push, o(api.Load, 0), o(api.Call, 3), o(api.Add, 0), o(api.Return, 0)}},
		{Args: 1, Locals: 1, Code: gives()},
	}
}

func TestG1Call(t *testing.T) {
	rows := []struct {
		name      string
		at        int
		had, left []int
		begun     api.Frame
	}{
		{"four Args", 5, []int{10, 20, 30, 40, 50}, []int{10}, frame(1, 0, []int{20, 30, 40, 50}, nil)},
		{"no Args", 7, []int{10}, []int{10}, frame(2, 0, []int{0, 0}, nil)},
		{"one of Args, and other locals", 10, []int{10, -20}, []int{10}, frame(3, 0, []int{-20, 0, 0, 0}, nil)},
		{"all that there is", 12, []int{10}, nil, frame(4, 0, []int{10}, nil)},
	}
	for _, row := range rows {
		s := api.State{Fibers: []api.Fiber{fiber(-1, frame(0, row.at, nil, row.had))}, Out: []int{3}}
		want := api.State{Fibers: []api.Fiber{fiber(-1, frame(0, row.at+1, nil, row.left), row.begun)}, Out: []int{3}}
		becomes(t, row.name, calls(), s, want)
	}
}

// deep is main of calls with so many frames, the top one ahead of a Call.
func deep(frames int) api.State {
	l := []api.Frame{frame(0, 11, nil, []int{10})}
	for k := 1; k < frames-1; k++ {
		l = append(l, frame(3, 3, []int{k, 0, 0, 0}, []int{1}))
	}
	l = append(l, frame(3, 2, []int{8, 7, 6, 5}, []int{1, 9}))
	return api.State{Fibers: []api.Fiber{fiber(-1, l...)}}
}

// G1: MaxFrames are those of one fiber.
func TestG1CallDeep(t *testing.T) {
	want := deep(5)
	want.Fibers[0].Frames[4] = frame(3, 3, []int{8, 7, 6, 5}, []int{1})
	want.Fibers[0].Frames = append(want.Fibers[0].Frames, frame(3, 0, []int{9, 0, 0, 0}, nil))
	becomes(t, "five frames", calls(), deep(5), want)
	stays(t, "six frames", calls(), deep(6), api.ErrMany)

	p := []api.Func{
		{Code: []api.Op{o(api.Call, 0), o(api.Pop, 0), o(api.Make, 1), o(api.Push, 1), o(api.Resume, 0), o(api.Return, 0)}},
		{Args: 1, Locals: 1, Code: []api.Op{o(api.Call, 0), o(api.Return, 0)}},
	}
	waits, call := frame(0, 5, nil, nil), frame(0, 1, nil, nil)
	s := api.State{Fibers: []api.Fiber{fiber(-1, call, call, call, call, call, waits), fiber(0, frame(1, 0, []int{1}, nil))}, Now: 1}
	want = cloneState(s)
	want.Fibers[1].Frames = []api.Frame{frame(1, 1, []int{1}, nil), frame(0, 0, nil, nil)}
	becomes(t, "six frames of another fiber", p, s, want)
}

func TestG1Return(t *testing.T) {
	p, s := calls(), deep(5)
	s.Fibers[0].Frames[4] = frame(3, 4, []int{8, 7, 6, 5}, []int{77})
	want := cloneState(s)
	want.Fibers[0].Frames = want.Fibers[0].Frames[:4]
	want.Fibers[0].Frames[3].Stack = []int{1, 77}
	becomes(t, "to the frame below", p, s, want)

	s = api.State{Fibers: []api.Fiber{fiber(-1, frame(0, 13, nil, []int{-5}))}, Out: []int{4}}
	becomes(t, "main's", p, s, api.State{Fibers: []api.Fiber{fiber(-1)}, Now: -1, Out: []int{4, -5}})
	s.Out = make([]int, 29)
	want = api.State{Fibers: []api.Fiber{fiber(-1)}, Now: -1, Out: append(make([]int, 29), -5)}
	becomes(t, "main's, and 29 were put out", p, s, want)
	s.Out = make([]int, 30)
	stays(t, "main's, and 30 were put out", p, s, api.ErrMany)
}

// line is a state of the program count: fiber 2 runs at the op at, fiber 1 waits for it, main for that one; fiber 3 has yielded, fiber 4 is done.
func line(at int, stack []int) api.State {
	waits := frame(0, 9, []int{1}, nil)
	return api.State{
		Fibers: []api.Fiber{
			fiber(-1, waits),
			fiber(0, waits),
			fiber(1, frame(1, at, []int{6}, stack)),
			fiber(-1, frame(1, 7, []int{3}, nil)),
			fiber(-1),
		},
		Now: 2,
		Out: make([]int, 30),
	}
}

// G1: the fiber is done, and its Caller has what it gives; nothing is put out.
func TestG1ReturnOfAFiber(t *testing.T) {
	s := line(9, []int{88})
	want := cloneState(s)
	want.Now, want.Fibers[2] = 1, fiber(-1)
	want.Fibers[1].Frames[0].Stack = []int{88}
	becomes(t, "to its Caller", count(), s, want)

	call := frame(1, 6, []int{5}, nil)
	s.Fibers[2].Frames = []api.Frame{call, frame(2, 3, []int{1, 2}, []int{3})}
	want = cloneState(s)
	want.Fibers[2].Frames = []api.Frame{frame(1, 6, []int{5}, []int{3})}
	becomes(t, "to its own frame", count(), s, want)
}

func TestG2Make(t *testing.T) {
	p := []api.Func{
		{Code: []api.Op{o(api.Push, 4), o(api.Make, 2), o(api.Add, 0), o(api.Return, 0)}},
		{Args: 1, Locals: 1, Code: gives()},
		{Args: 1, Locals: 3, Code: gives()},
	}
	s := api.State{Fibers: []api.Fiber{fiber(-1, frame(0, 1, nil, []int{4}))}}
	for n := 1; n <= 4; n++ {
		want := cloneState(s)
		want.Fibers[0].Frames[0] = frame(0, 2, nil, []int{4, n})
		want.Fibers = append(want.Fibers, fiber(-1, frame(2, 0, []int{0, 0, 0}, nil)))
		becomes(t, fmt.Sprintf("fiber %d", n), p, s, want)
		s.Fibers = append(s.Fibers, fiber(-1)) // who is done counts
	}
	stays(t, "five fibers", p, s, api.ErrMany)

	s = api.State{Fibers: []api.Fiber{fiber(-1, frame(1, 0, []int{0}, nil))}}
	p[1].Code = []api.Op{o(api.Make, 1), o(api.Return, 0)}
	want := api.State{Fibers: []api.Fiber{fiber(-1, frame(1, 1, []int{0}, []int{1})), fiber(-1, frame(1, 0, []int{0}, nil))}}
	becomes(t, "of its own function", p, s, want)
}

// resumes is line with the fiber 2 in main's function, ahead of a Resume of n.
func resumes(n, value int) api.State {
	s := line(0, nil)
	s.Fibers[2].Frames[0] = frame(0, 8, []int{5}, []int{n, value})
	return s
}

func TestG2Resume(t *testing.T) {
	for _, value := range []int{0, 12, lowest} {
		s := resumes(3, value)
		want := cloneState(s)
		want.Now, want.Fibers[3] = 3, fiber(2, frame(1, 7, []int{3}, []int{value}))
		want.Fibers[2].Frames[0] = frame(0, 9, []int{5}, nil)
		becomes(t, "who has yielded", count(), s, want)

		s.Fibers[3] = fiber(-1, frame(1, 0, []int{0}, nil))
		want.Fibers[3] = fiber(2, frame(1, 0, []int{value}, nil))
		becomes(t, "a fresh one", count(), s, want)
	}
	for _, n := range far() {
		switch {
		case n == 3:
		case n >= 0 && n < 5:
			stays(t, fmt.Sprintf("fiber %d, which goes on or is done", n), count(), resumes(n, 1), api.ErrBusy)
		default:
			stays(t, fmt.Sprintf("fiber %d", n), count(), resumes(n, 1), api.ErrNone)
		}
	}
	s := api.State{Fibers: []api.Fiber{fiber(-1, frame(0, 4, []int{0}, []int{0, 1}))}}
	stays(t, "main by itself", count(), s, api.ErrBusy)
	s.Fibers[0].Frames[0].Stack[0] = 1
	stays(t, "none beside main", count(), s, api.ErrNone)
}

// G2: a fresh one has its value in local 0 and the others 0; who has yielded in a call has it in the top frame.
func TestG2ResumeDeep(t *testing.T) {
	p := []api.Func{
		{Code: []api.Op{o(api.Push, 1), o(api.Push, 1), o(api.Resume, 0), o(api.Return, 0)}},
		{Args: 1, Locals: 3, Code: []api.Op{o(api.Call, 2), o(api.Return, 0)}},
		{Code: []api.Op{o(api.Push, 1), o(api.Push, 1), o(api.Yield, 0), o(api.Add, 0), o(api.Return, 0)}},
	}
	main, waits := frame(0, 2, nil, []int{1, 44}), frame(0, 3, nil, nil)
	s := api.State{Fibers: []api.Fiber{fiber(-1, main), fiber(-1, frame(1, 0, []int{0, 0, 0}, nil))}}
	want := api.State{Fibers: []api.Fiber{fiber(-1, waits), fiber(0, frame(1, 0, []int{44, 0, 0}, nil))}, Now: 1}
	becomes(t, "fresh", p, s, want)

	call := frame(1, 1, []int{0, 0, 0}, nil)
	s.Fibers[1] = fiber(-1, call, frame(2, 3, nil, []int{1}))
	want.Fibers[1] = fiber(0, call, frame(2, 3, nil, []int{1, 44}))
	becomes(t, "yielded in a call", p, s, want)
}

func TestG2Yield(t *testing.T) {
	s := line(1, []int{-9})
	want := cloneState(s)
	want.Now, want.Fibers[2] = 1, fiber(-1, frame(1, 2, []int{6}, nil))
	want.Fibers[1].Frames[0].Stack = []int{-9}
	becomes(t, "to its Caller", count(), s, want)

	s = api.State{Fibers: []api.Fiber{fiber(-1, frame(1, 1, []int{6}, []int{-9})), fiber(-1, frame(1, 2, []int{6}, nil))}}
	stays(t, "main", count(), s, api.ErrAlone)

	// Main waits in a call, and has what is yielded there.
	p := []api.Func{
		{Code: []api.Op{o(api.Make, 1), o(api.Push, 1), o(api.Resume, 0), o(api.Call, 0), o(api.Add, 0), o(api.Return, 0)}},
		{Args: 1, Locals: 1, Code: []api.Op{o(api.Push, 7), o(api.Load, 0), o(api.Yield, 0), o(api.Add, 0), o(api.Return, 0)}},
	}
	call, waits := frame(0, 4, nil, []int{2}), frame(0, 3, nil, nil)
	s = api.State{Fibers: []api.Fiber{fiber(-1, call, waits), fiber(0, frame(1, 2, []int{3}, []int{7, 3}))}, Now: 1}
	waits.Stack = []int{3}
	want = api.State{Fibers: []api.Fiber{fiber(-1, call, waits), fiber(-1, frame(1, 3, []int{3}, []int{7}))}}
	becomes(t, "to a call", p, s, want)
}

func TestG2Put(t *testing.T) {
	p := short(o(api.Put, 0))
	for _, had := range []int{0, 1, 29} {
		s := api.State{Fibers: []api.Fiber{fiber(-1, frame(0, 3, []int{30, 40}, []int{5, lowest}))}, Out: make([]int, had)}
		want := api.State{Fibers: []api.Fiber{fiber(-1, frame(0, 4, []int{30, 40}, []int{5}))}, Out: append(make([]int, had), lowest)}
		becomes(t, fmt.Sprintf("%d were put out", had), p, s, want)
	}
	s := api.State{Fibers: []api.Fiber{fiber(-1, frame(0, 3, []int{30, 40}, []int{5, 6}))}, Out: make([]int, 30)}
	stays(t, "30 were put out", p, s, api.ErrMany)
}

// rightState is a right state of p that the program need not come to: values and what was put out are drawn anew.
func rightState(r *rand.Rand, p []api.Func) api.State {
	l := reachedStates(p, 60)
	s := cloneState(l[r.Intn(len(l))])
	if r.Intn(4) == 0 {
		s.Out = make([]int, 28+r.Intn(3))
	}
	for n, b := range s.Fibers {
		if isMade(p, b) && n != s.Now {
			continue
		}
		for _, x := range b.Frames {
			for _, values := range [][]int{x.Locals, x.Stack} {
				for k := range values {
					if r.Intn(2) == 0 {
						values[k] = []int{lowest, -1, 0, 1, 2, 3, 4, 5, highest}[r.Intn(9)]
					}
				}
			}
		}
	}
	for range r.Intn(3) {
		turned := cloneState(s)
		disturb(r, p, &turned)
		if judged(p, turned) == api.OK {
			s = turned
		}
	}
	return s
}

// G3: what comes of a right state is right, and it is what the promises say, said another way; ErrForm is never told.
func TestG3Drawn(t *testing.T) {
	r := rand.New(rand.NewSource(16))
	answers, kinds := map[api.Errno]int{}, make([]int, 17)
	for range 30000 {
		p := built(r)
		s := rightState(r, p)
		got, e := step.Do(p, s)
		want, wantError := after(p, s)
		if e != wantError || shown(got) != shown(want) {
			t.Fatalf("%v at %s: %s %d, not %s %d", p, shown(s), shown(got), e, shown(want), wantError)
		}
		answers[e]++
		if e == api.OK {
			kinds[opOf(p, s).Kind]++
			if e := state.Check(p, got); e != api.OK {
				t.Fatalf("%v at %s: what comes of it, %s, is not right: %d", p, shown(s), shown(got), e)
			}
		}
	}
	for _, e := range []api.Errno{api.OK, api.ErrMany, api.ErrNone, api.ErrBusy, api.ErrAlone, api.ErrOver} {
		if answers[e] < 50 {
			t.Errorf("%d was told only %d times", e, answers[e])
		}
		delete(answers, e)
	}
	if len(answers) > 0 || slices.Min(kinds) < 50 {
		t.Errorf("other errors %v; kinds of ops were done %v times", answers, kinds)
	}
}
