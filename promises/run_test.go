package promises

import (
	"fmt"
	"math/rand"
	"slices"
	"testing"

	"glebe/api"
	"glebe/run"
	"glebe/state"
)

// ranOn is H1 said another way, of a right state: the states that it comes to, the last one last, and why it stopped there.
func ranOn(p []api.Func, s api.State, fuel int) ([]api.State, api.Errno) {
	l := []api.State{s}
	for len(l) <= fuel && s.Now != -1 {
		next, e := after(p, s)
		if e != api.OK {
			return l, e
		}
		l, s = append(l, next), next
	}
	return l, api.OK
}

func TestH1Example(t *testing.T) {
	l, _ := ranOn(count(), begun(count()), 28)
	for fuel := range 501 {
		want, steps := l[min(fuel, 28)], min(fuel, 28)
		s, n, e := run.Run(count(), begun(count()), fuel)
		if shown(s) != shown(want) || n != steps || e != api.OK {
			t.Errorf("fuel %d: %s %d %d, not %s", fuel, shown(s), n, e, shown(want))
		}
		out, n, e := run.All(count(), fuel)
		if !slices.Equal(out, want.Out) || n != steps || e != api.OK {
			t.Errorf("fuel %d: %v %d %d, not %v", fuel, out, n, e, want.Out)
		}
	}
	if out, n, e := run.All(count(), 500); !slices.Equal(out, []int{7, 8, 99}) || n != 28 || e != api.OK {
		t.Errorf("%v %d %d", out, n, e)
	}
}

// H1: ErrRange is told ahead of all else.
func TestH1Fuel(t *testing.T) {
	for _, fuel := range []int{lowest, -501, -500, -1, 501, 1000, 1 << 32, highest} {
		for _, p := range [][]api.Func{count(), nil, many(6), with(func(p []api.Func) { p[2].Code = nil })} {
			for _, s := range []api.State{four(), {}, {Now: 9}} {
				if s, n, e := run.Run(p, s, fuel); !isNoState(s) || n != 0 || e != api.ErrRange {
					t.Errorf("fuel %d: %s %d %d", fuel, shown(s), n, e)
				}
			}
			if out, n, e := run.All(p, fuel); len(out) != 0 || n != 0 || e != api.ErrRange {
				t.Errorf("fuel %d: %v %d %d", fuel, out, n, e)
			}
		}
	}
}

func TestH1Errors(t *testing.T) {
	tell := func(name string, p []api.Func, s api.State, want api.Errno) {
		t.Helper()
		for _, fuel := range []int{0, 1, 500} {
			if s, n, e := run.Run(p, s, fuel); !isNoState(s) || n != 0 || e != want {
				t.Errorf("%s, fuel %d: %s %d %d, not %d", name, fuel, shown(s), n, e, want)
			}
		}
	}
	for _, row := range wrongPrograms() {
		tell(row.name, row.p, four(), row.want)
		tell(row.name, row.p, api.State{Now: -1}, row.want)
		for _, fuel := range []int{0, 1, 500} {
			if out, n, e := run.All(row.p, fuel); len(out) != 0 || n != 0 || e != row.want {
				t.Errorf("%s, fuel %d: %v %d %d, not %d", row.name, fuel, out, n, e, row.want)
			}
		}
	}
	rows := []changed{
		{"too many put out", func(s *api.State) { s.Out = make([]int, 31) }, api.ErrMany},
		{"no fibers", func(s *api.State) { s.Fibers = nil }, api.ErrNone},
		{"Now is none", func(s *api.State) { s.Now = -2 }, api.ErrRange},
		{"nobody runs, but main waits", func(s *api.State) { s.Now = -1 }, api.ErrForm},
		{"another one is not as it must be", func(s *api.State) { s.Fibers[3].Frames[0].At = 1 }, api.ErrForm},
	}
	for _, row := range rows {
		s := four()
		row.change(&s)
		tell(row.name, count(), s, row.want)
	}
}

// H1: what was put out ahead of the error, the steps done, and the error.
func TestH1Stops(t *testing.T) {
	push, put := o(api.Push, 3), o(api.Put, 0)
	resume := func(n int) []api.Op {
		return []api.Op{push, put, o(api.Push, n), push, o(api.Resume, 0), o(api.Return, 0)}
	}
	of30 := slices.Repeat([]int{3}, 30)
	rows := []struct {
		name  string
		p     []api.Func
		out   []int
		steps int
		want  api.Errno
	}{
		{"all is done", one(gives()...), []int{1}, 2, api.OK},
		{"never ends", one(o(api.Jump, 0)), nil, 500, api.OK},
		{"never ends, and puts out", one(push, put, o(api.Jump, 2)), []int{3}, 500, api.OK},
		{"too many put out", one(push, put, o(api.Jump, 0)), of30, 91, api.ErrMany},
		{"too many frames", one(push, put, o(api.Call, 0), o(api.Return, 0)), slices.Repeat([]int{3}, 6), 17, api.ErrMany},
		{"too many fibers", append(one(push, put, o(api.Make, 1), o(api.Pop, 0), o(api.Jump, 2)), api.Func{Args: 1, Locals: 1, Code: gives()}), []int{3}, 14, api.ErrMany},
		{"no such fiber", one(resume(1)...), []int{3}, 4, api.ErrNone},
		{"main by itself", one(resume(0)...), []int{3}, 4, api.ErrBusy},
		{"nobody waits for main", one(push, put, push, o(api.Yield, 0), o(api.Return, 0)), []int{3}, 3, api.ErrAlone},
		{"it can't go on at once", append(one(o(api.Call, 1), o(api.Yield, 0), o(api.Return, 0)), api.Func{Code: gives()}), nil, 3, api.ErrAlone},
	}
	for _, row := range rows {
		if out, n, e := run.All(row.p, 500); !slices.Equal(out, row.out) || n != row.steps || e != row.want {
			t.Errorf("%s: %v %d %d", row.name, out, n, e)
		}
		l, _ := ranOn(row.p, begun(row.p), 500)
		for _, fuel := range []int{0, 1, row.steps - 1, row.steps, min(500, row.steps+1), 500} {
			want := row.want
			if fuel <= row.steps {
				want = api.OK // the step that has the error is not begun
			}
			last := l[min(fuel, row.steps)]
			if s, n, e := run.Run(row.p, begun(row.p), fuel); shown(s) != shown(last) || n != min(fuel, row.steps) || e != want {
				t.Errorf("%s, fuel %d: %s %d %d, not %s %d", row.name, fuel, shown(s), n, e, shown(last), want)
			}
		}
		// From where it stopped it goes no further, for the same reason.
		end := l[len(l)-1]
		if row.steps < 500 {
			if s, n, e := run.Run(row.p, end, 500); shown(s) != shown(end) || n != 0 || e != row.want {
				t.Errorf("%s, once more: %s %d %d", row.name, shown(s), n, e)
			}
		}
	}
}

func TestH1Drawn(t *testing.T) {
	r := rand.New(rand.NewSource(17))
	answers := map[api.Errno]int{}
	for range 3000 {
		p, fuel := built(r), r.Intn(80)
		s := rightState(r, p)
		l, want := ranOn(p, s, fuel)
		last := l[len(l)-1]
		got, n, e := run.Run(p, s, fuel)
		if shown(got) != shown(last) || n != len(l)-1 || e != want {
			t.Fatalf("%v at %s, fuel %d: %s %d %d, not %s %d %d", p, shown(s), fuel, shown(got), n, e, shown(last), len(l)-1, want)
		}
		answers[e]++
		l, want = ranOn(p, begun(p), fuel)
		last = l[len(l)-1]
		if out, n, e := run.All(p, fuel); !slices.Equal(out, last.Out) || n != len(l)-1 || e != want {
			t.Fatalf("%v, fuel %d: %v %d %d, not %v %d %d", p, fuel, out, n, e, last.Out, len(l)-1, want)
		}
		if e := state.Check(p, got); e != api.OK {
			t.Fatalf("%v at %s, fuel %d: %s is not right: %d", p, shown(s), fuel, shown(got), e)
		}
	}
	for _, e := range []api.Errno{api.OK, api.ErrMany, api.ErrNone, api.ErrBusy, api.ErrAlone} {
		if answers[e] < 20 {
			t.Errorf("%d was told only %d times", e, answers[e])
		}
	}
}

// H2: one go of a and b steps, or two.
func TestH2(t *testing.T) {
	r := rand.New(rand.NewSource(18))
	for range 3000 {
		p, a, b := built(r), r.Intn(40), r.Intn(40)
		s := rightState(r, p)
		half, n, e := run.Run(p, s, a)
		whole, steps, f := run.Run(p, s, a+b)
		var then int
		if e == api.OK {
			half, then, e = run.Run(p, half, b)
		}
		if one, two := fmt.Sprint(shown(whole), steps, f), fmt.Sprint(shown(half), n+then, e); one != two {
			t.Fatalf("%v at %s, fuel %d and %d: %s in one go, %s in two", p, shown(s), a, b, one, two)
		}
	}
	for a := range 30 {
		s, n, _ := run.Run(count(), begun(count()), a)
		s, m, e := run.Run(count(), s, 500)
		if !slices.Equal(s.Out, []int{7, 8, 99}) || n+m != 28 || e != api.OK {
			t.Errorf("stopped behind %d steps: %v by %d steps, %d", a, s.Out, n+m, e)
		}
	}
}
