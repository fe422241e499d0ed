package promises

import (
	"math/rand"
	"slices"
	"testing"

	"glebe/api"
	"glebe/chain"
	"glebe/state"
)

// kindsOf are the kinds of all fibers of s.
func kindsOf(t *testing.T, p []api.Func, s api.State) []int {
	t.Helper()
	var l []int
	for n := range s.Fibers {
		k, e := chain.Kind(p, s, n)
		if e != api.OK {
			t.Errorf("%v: fiber %d: %d", s, n, e)
		}
		l = append(l, k)
	}
	return l
}

func TestF1(t *testing.T) {
	waits := frame(0, 5, []int{1}, nil)
	rows := []struct {
		name        string
		s           api.State
		line, kinds []int
	}{
		{"four", four(), []int{1, 0}, []int{2, 1, 3, 4}},
		{"the beginning", begun(count()), []int{0}, []int{1}},
		{"all is done", api.State{Fibers: []api.Fiber{fiber(-1), fiber(-1, frame(1, 2, []int{3}, nil)), fiber(-1, frame(1, 0, []int{0}, nil)), fiber(-1)}, Now: -1}, nil, []int{0, 4, 3, 0}},
		{"main alone is done", api.State{Fibers: []api.Fiber{fiber(-1)}, Now: -1}, nil, []int{0}},
		{"main runs, others are done", api.State{Fibers: []api.Fiber{fiber(-1, frame(0, 2, []int{1}, nil)), fiber(-1), fiber(-1)}}, []int{0}, []int{1, 0, 0}},
		{"a long line", api.State{Fibers: []api.Fiber{fiber(-1, waits), fiber(3, frame(1, 0, []int{0}, nil)), fiber(4, waits), fiber(2, waits), fiber(0, waits)}, Now: 1}, []int{1, 3, 2, 4, 0}, []int{2, 1, 2, 2, 2}},
		{"yielded in a call", api.State{Fibers: []api.Fiber{fiber(-1, frame(0, 2, []int{1}, nil)), fiber(-1, frame(1, 7, []int{1}, nil))}}, []int{0}, []int{1, 4}},
	}
	for _, row := range rows {
		if l, e := chain.Line(count(), row.s); !slices.Equal(l, row.line) || e != api.OK {
			t.Errorf("%s: line %v %d, not %v", row.name, l, e, row.line)
		}
		if l := kindsOf(t, count(), row.s); !slices.Equal(l, row.kinds) {
			t.Errorf("%s: kinds %v, not %v", row.name, l, row.kinds)
		}
	}
}

// F1: who has yielded within a call has yielded, whatever the frame below looks like.
func TestF1YieldedInACall(t *testing.T) {
	p := []api.Func{
		{Code: gives()},
		{Args: 1, Locals: 1, Code: []api.Op{o(api.Call, 2), o(api.Return, 0)}},
		{Code: []api.Op{o(api.Push, 1), o(api.Yield, 0), o(api.Return, 0)}},
	}
	s := api.State{Fibers: []api.Fiber{fiber(-1, frame(0, 0, nil, nil)), fiber(-1, frame(1, 1, []int{0}, nil), frame(2, 2, nil, nil)), fiber(-1, frame(1, 0, []int{0}, nil))}}
	if l := kindsOf(t, p, s); !slices.Equal(l, []int{1, 4, 3}) {
		t.Errorf("kinds %v", l)
	}
}

func TestF1NoSuchFiber(t *testing.T) {
	for _, n := range far() {
		k, e := chain.Kind(count(), four(), n)
		if (n < 0 || n > 3) && (k != 0 || e != api.ErrNone) {
			t.Errorf("fiber %d: %d %d", n, k, e)
		}
	}
}

func TestF1Errors(t *testing.T) {
	rows := []changed{
		{"too many fibers", func(s *api.State) { s.Fibers = make([]api.Fiber, 6) }, api.ErrMany},
		{"no fibers", func(s *api.State) { s.Fibers = nil }, api.ErrNone},
		{"Now is none", func(s *api.State) { s.Now = 4 }, api.ErrRange},
		{"main waits, nobody runs", func(s *api.State) { s.Now = -1 }, api.ErrForm},
		{"a ring", func(s *api.State) { s.Fibers[0].Caller = 1 }, api.ErrForm},
	}
	tell := func(name string, p []api.Func, s api.State, want api.Errno) {
		if l, e := chain.Line(p, s); len(l) != 0 || e != want {
			t.Errorf("%s: line %v %d, not %d", name, l, e, want)
		}
		// Check's errors come first, whatever n is.
		for n := -1; n < 7; n++ {
			if k, e := chain.Kind(p, s, n); k != 0 || e != want {
				t.Errorf("%s: kind of %d: %d %d, not %d", name, n, k, e, want)
			}
		}
	}
	for _, row := range rows {
		s := four()
		row.change(&s)
		tell(row.name, count(), s, row.want)
	}
	for _, row := range wrongPrograms() {
		tell(row.name, row.p, four(), row.want)
	}
}

// kindOf is F1 said another way.
func kindOf(p []api.Func, s api.State, n int) int {
	line, _ := lineOf(s)
	switch {
	case len(s.Fibers[n].Frames) == 0:
		return 0
	case len(line) > 0 && line[0] == n:
		return 1
	case slices.Contains(line, n):
		return 2
	case isMade(p, s.Fibers[n]):
		return 3
	}
	return 4
}

func TestF1Drawn(t *testing.T) {
	r := rand.New(rand.NewSource(15))
	var seen, long [6]int
	for range 2000 {
		p := built(r)
		for _, s := range reachedStates(p, 60) {
			if r.Intn(3) == 0 {
				s = cloneState(s)
				disturb(r, p, &s)
			}
			l, e := chain.Line(p, s)
			if check := state.Check(p, s); e != check {
				t.Fatalf("%v at %v: %d, not %d", p, s, e, check)
			}
			if e != api.OK {
				continue
			}
			want, _ := lineOf(s)
			if !slices.Equal(l, want) {
				t.Fatalf("%v at %v: line %v, not %v", p, s, l, want)
			}
			long[len(l)]++
			for n, k := range kindsOf(t, p, s) {
				if w := kindOf(p, s, n); k != w {
					t.Fatalf("%v at %v: fiber %d is %d, not %d", p, s, n, k, w)
				}
				seen[k]++
			}
		}
	}
	if slices.Min(seen[:5]) < 100 || slices.Min(long[:4]) < 20 {
		t.Errorf("kinds were seen %v times, lines %v", seen, long)
	}
}
