package promises

import (
	"fmt"
	"math/rand"
	"slices"
	"strings"
	"testing"

	"glebe/api"
	"glebe/chain"
	"glebe/desk"
	"glebe/expr"
	"glebe/flow"
	"glebe/forge"
	"glebe/op"
	"glebe/prog"
	"glebe/run"
	"glebe/save"
	"glebe/state"
	"glebe/step"
	"glebe/text"
	"glebe/trim"
)

// behind are the places to which one may come from the op x at at.
func behind(x api.Op, at int) []int {
	switch x.Kind {
	case api.Return:
		return nil
	case api.Jump:
		return []int{x.A}
	case api.Zero:
		return []int{x.A, at + 1}
	}
	return []int{at + 1}
}

// An op to which one comes has what it takes, and all behind it have what it leaves.
func TestWholeHeights(t *testing.T) {
	r := rand.New(rand.NewSource(33))
	for i := range 10000 {
		p := built(r)
		if i%2 == 0 {
			p = drawn(r)
		}
		for f := range p {
			if heights, e := flow.Heights(p, f); e == api.OK {
				holdHeights(t, p, f, heights)
			} else if i%2 == 1 {
				t.Fatalf("%v, function %d: %d", p, f, e)
			}
		}
	}
}

func holdHeights(t *testing.T, p []api.Func, f int, heights []int) {
	t.Helper()
	for at, x := range p[f].Code {
		if heights[at] == -1 {
			continue
		}
		takes, leaves, _ := op.Effect(p, x)
		if takes > heights[at] {
			t.Fatalf("%v, function %d: %v, and op %d takes %d", p, f, heights, at, takes)
		}
		for _, next := range behind(x, at) {
			if heights[next] != heights[at]-takes+leaves {
				t.Fatalf("%v, function %d: %v, and op %d is behind op %d", p, f, heights, next, at)
			}
		}
	}
}

// One comes to all that is left; trimmed, the same is put out.
func TestWholeTrimmed(t *testing.T) {
	r := rand.New(rand.NewSource(34))
	for range 1000 {
		p := built(r)
		q, e := trim.All(p)
		for f := range q {
			if heights, g := flow.Heights(q, f); e != api.OK || g != api.OK || slices.Min(heights) < 0 {
				t.Fatalf("%v, function %d of %v: %v %d", p, f, q, heights, g)
			}
		}
		for _, fuel := range []int{r.Intn(40), 200} {
			out, n, e := run.All(p, fuel)
			trimmed, m, g := run.All(q, fuel)
			if !slices.Equal(out, trimmed) || n != m || e != g {
				t.Fatalf("%v: %v %d %d; trimmed: %v %d %d", p, out, n, e, trimmed, m, g)
			}
		}
	}
}

// Just one fiber runs, if not all is done.
func TestWholeOneRuns(t *testing.T) {
	r := rand.New(rand.NewSource(35))
	done := 0
	for range 1000 {
		p := built(r)
		s, e := state.Begin(p)
		for steps := 0; e == api.OK && steps < 100; steps++ {
			running := 0
			for n := range s.Fibers {
				if k, _ := chain.Kind(p, s, n); k == 1 {
					running++
				}
			}
			line, _ := chain.Line(p, s)
			if s.Now == -1 && running+len(line) > 0 || s.Now != -1 && (running != 1 || line[0] != s.Now) {
				t.Fatalf("%v at %s: %d run, the line is %v", p, shown(s), running, line)
			}
			if s.Now == -1 {
				done++
			}
			s, e = step.Do(p, s)
		}
	}
	if done < 100 {
		t.Errorf("only %d came to the end", done)
	}
}

// What comes of a right state is right; if it can't go on, it is told why.
func TestWholeSteps(t *testing.T) {
	why := []api.Errno{api.ErrMany, api.ErrNone, api.ErrBusy, api.ErrAlone, api.ErrOver}
	r := rand.New(rand.NewSource(36))
	for range 5000 {
		p := built(r)
		s := rightState(r, p)
		next, e := step.Do(p, s)
		if e == api.OK && state.Check(p, next) != api.OK || e != api.OK && !slices.Contains(why, e) {
			t.Fatalf("%v at %s: %s %d", p, shown(s), shown(next), e)
		}
	}
}

// An op that stays in its frame can be done.
func TestWholeStays(t *testing.T) {
	r := rand.New(rand.NewSource(37))
	kinds := make([]int, api.Zero+1)
	for range 10000 {
		p := built(r)
		s := rightState(r, p)
		if s.Now == -1 || opOf(p, s).Kind > api.Zero {
			continue
		}
		kinds[opOf(p, s).Kind]++
		next, e := step.Do(p, s)
		if e != api.OK || next.Now != s.Now || len(next.Fibers[s.Now].Frames) != len(s.Fibers[s.Now].Frames) {
			t.Fatalf("%v at %s: %s %d", p, shown(s), shown(next), e)
		}
	}
	if slices.Min(kinds) < 20 {
		t.Errorf("kinds of ops were done %v times", kinds)
	}
}

// It does not matter whether one runs on in two goes, at the desk neither.
func TestWholeTwoGoes(t *testing.T) {
	r := rand.New(rand.NewSource(38))
	for range 1000 {
		p, a, b := built(r), r.Intn(40), r.Intn(40)
		whole, n, e := run.All(p, a+b)
		s, _ := state.Begin(p)
		s, first, _ := run.Run(p, s, a)
		s, second, f := run.Run(p, s, b)
		if !slices.Equal(whole, s.Out) || n != first+second {
			t.Fatalf("%v, fuel %d and %d: %v by %d steps, %d, in one go; %v by %d and %d, %d, in two", p, a, b, whole, n, e, s.Out, first, second, f)
		}
		lines, _ := text.Show(p)
		ask := "out\nkinds\nline\n"
		one, _ := desk.Play(lines, fmt.Sprintf("step %d\n", a+b)+ask)
		two, _ := desk.Play(lines, fmt.Sprintf("step %d\nstep %d\n", a, b)+ask)
		if asked := strings.SplitN(one, "\n", 2)[1]; asked != strings.SplitN(two, "\n", 3)[2] {
			t.Fatalf("%v, fuel %d and %d: %q in one go, %q in two", p, a, b, one, two)
		}
	}
}

// What was saved goes on as it would have.
func TestWholeSaved(t *testing.T) {
	r := rand.New(rand.NewSource(39))
	for range 1000 {
		p := built(r)
		s, _ := state.Begin(p)
		s, _, _ = run.Run(p, s, r.Intn(40))
		want, n, e := run.Run(p, s, 200)
		b, f := save.Write(p, s)
		s, g := save.Read(p, b)
		end, m, h := run.Run(p, s, 200)
		if shown(end) != shown(want) || n != m || e != h || f != api.OK || g != api.OK {
			t.Fatalf("%v: %s by %d steps, %d; saved (%d %d): %s by %d steps, %d", p, shown(want), n, e, f, g, shown(end), m, h)
		}
	}
}

// The program of an expression puts out just what it is, trimmed and shown and read too.
func TestWholeExprs(t *testing.T) {
	r := rand.New(rand.NewSource(40))
	for range 3000 {
		vals := smallVals(r, r.Intn(5))
		e := drawnTree(r, 9, len(vals)).list()
		want, _ := expr.Value(e, vals)
		p, wrong := forge.Prog(e, vals)
		q, _ := trim.All(p)
		lines, _ := text.Show(q)
		back, _ := text.Read(lines)
		for _, one := range [][]api.Func{p, q, back} {
			if out, n, f := run.All(one, 500); wrong != api.OK || f != api.OK || !slices.Equal(out, []int{want}) {
				t.Fatalf("%v with %v: %v by %d steps, %d %d, not %d", e, vals, out, n, wrong, f, want)
			}
		}
		if given, _ := desk.Play(lines, "step 500\nout\nkinds\n"); !strings.HasSuffix(given, fmt.Sprintf("\n%d\n0\n", want)) {
			t.Fatalf("%v with %v: the desk gives %q, not %d", e, vals, given, want)
		}
	}
}

// What is shown is read as it was, and nothing else is.
func TestWholeText(t *testing.T) {
	r := rand.New(rand.NewSource(41))
	for i := range 3000 {
		p := built(r)
		if i%2 == 0 {
			p = drawn(r)
		}
		s, e := text.Show(p)
		if e != prog.Check(p) {
			t.Fatalf("%v: %q %d", p, s, e)
		}
		if e != api.OK {
			continue
		}
		if back, f := text.Read(s); f != api.OK || !samePrograms(back, p) {
			t.Fatalf("%v: %q, back as %v %d", p, s, back, f)
		}
		other := turnedText(r, s)
		if q, f := text.Read(other); f == api.OK {
			if again, _ := text.Show(q); again != other {
				t.Fatalf("%q is read as %v, which is shown as %q", other, q, again)
			}
		}
	}
}
