package promises

import (
	"math/rand"
	"slices"
	"testing"

	"glebe/api"
	"glebe/flow"
	"glebe/prog"
	"glebe/trim"
)

func isNoFunc(f api.Func) bool { return f.Args == 0 && f.Locals == 0 && len(f.Code) == 0 }

func TestD1Example(t *testing.T) {
	want := count()
	want[1].Code = want[1].Code[:10]
	for f := range want {
		g, e := trim.Func(count(), f)
		if !samePrograms([]api.Func{g}, want[f:f+1]) || e != api.OK {
			t.Errorf("function %d: %v %d", f, g, e)
		}
	}
	if all, e := trim.All(count()); !samePrograms(all, want) || e != api.OK {
		t.Errorf("all: %v %d", all, e)
	}
}

func TestD1Func(t *testing.T) {
	push, pop, put, give := o(api.Push, 1), o(api.Pop, 0), o(api.Put, 0), o(api.Return, 0)
	jump := func(a int) api.Op { return o(api.Jump, a) }
	zero := func(a int) api.Op { return o(api.Zero, a) }
	rows := []struct {
		name       string
		code, want []api.Op
	}{
		{"nothing to trim", []api.Op{push, give}, []api.Op{push, give}},
		{"behind the Return", []api.Op{push, give, pop, pop}, []api.Op{push, give}},
		{"over a dead op", []api.Op{jump(2), pop, push, give}, []api.Op{jump(1), push, give}},
		{"to the op behind", []api.Op{jump(1), push, give}, []api.Op{jump(1), push, give}},
		{"over two dead stretches", []api.Op{jump(3), pop, pop, push, jump(7), put, give, give}, []api.Op{jump(1), push, jump(3), give}},
		{"back over dead ops", []api.Op{jump(4), pop, push, give, push, pop, jump(2)}, []api.Op{jump(3), push, give, push, pop, jump(1)}},
		{"a Zero over dead ops", []api.Op{push, zero(5), jump(5), pop, pop, push, give}, []api.Op{push, zero(3), jump(3), push, give}},
		{"a Zero back over dead ops", []api.Op{jump(2), give, push, jump(5), pop, zero(2), push, give}, []api.Op{jump(1), push, jump(3), zero(1), push, give}},
		{"for ever at the end", []api.Op{jump(2), pop, jump(2)}, []api.Op{jump(1), jump(1)}},
		{"a dead op that is the same as one that stays", []api.Op{jump(2), push, push, give, give}, []api.Op{jump(1), push, give}},
		{"dead Jumps do not matter", []api.Op{push, give, jump(0), jump(4), zero(2)}, []api.Op{push, give}},
		{"numbers are no places", []api.Op{jump(3), pop, pop, o(api.Push, 3), put, o(api.Push, 4), give}, []api.Op{jump(1), o(api.Push, 3), put, o(api.Push, 4), give}},
	}
	for _, row := range rows {
		g, e := trim.Func(one(row.code...), 0)
		if !samePrograms([]api.Func{g}, one(row.want...)) || e != api.OK {
			t.Errorf("%s: %v %d, not %v", row.name, g, e, row.want)
		}
		all, e := trim.All(one(row.code...))
		if !samePrograms(all, one(row.want...)) || e != api.OK {
			t.Errorf("%s: all: %v %d, not %v", row.name, all, e, row.want)
		}
	}
}

// D1: locals and functions are no places either; Args and Locals stay.
func TestD1OtherOperands(t *testing.T) {
	code := []api.Op{o(api.Jump, 2), o(api.Pop, 0), o(api.Load, 3), o(api.Store, 2), o(api.Make, 3), o(api.Put, 0), o(api.Call, 2), o(api.Return, 0)}
	want := append([]api.Op{o(api.Jump, 1)}, code[2:]...)
	p := []api.Func{{Code: gives()}, {Args: 2, Locals: 4, Code: code}, {Code: gives()}, {Args: 1, Locals: 1, Code: gives()}}
	g, e := trim.Func(p, 1)
	if g.Args != 2 || g.Locals != 4 || !slices.Equal(g.Code, want) || e != api.OK {
		t.Errorf("%v %d", g, e)
	}
}

func TestD1Errors(t *testing.T) {
	for _, f := range far() {
		if g, e := trim.Func(count(), f); (f < 0 || f > 2) && (!isNoFunc(g) || e != api.ErrNone) {
			t.Errorf("function %d: %v %d", f, g, e)
		}
	}
	low := []api.Op{o(api.Pop, 0)}
	rows := []struct {
		name      string
		p         []api.Func
		one, each api.Errno // of function 0; of all
	}{
		{"no program", nil, api.ErrNone, api.ErrNone},
		{"too many ops", one(make([]api.Op, 25)...), api.ErrMany, api.ErrMany},
		{"too many functions", many(6), api.OK, api.ErrMany},
		{"Args of function 0", []api.Func{{Args: 1, Locals: 1, Code: gives()}}, api.OK, api.ErrForm},
		{"too many locals", []api.Func{{Locals: 5, Code: gives()}}, api.ErrRange, api.ErrRange},
		{"no such kind among dead ops", one(append(gives(), o(17, 0))...), api.ErrKind, api.ErrKind},
		{"no heights", one(low...), api.ErrForm, api.ErrForm},
		{"no op", one(), api.ErrForm, api.ErrForm},
		{"another function without heights", []api.Func{{Code: gives()}, {Code: low}}, api.OK, api.ErrForm},
		{"another function's kind", []api.Func{{Code: gives()}, {Code: []api.Op{o(-1, 0)}}}, api.OK, api.ErrKind},
	}
	for _, row := range rows {
		if g, e := trim.Func(row.p, 0); e != row.one || isNoFunc(g) != (e != api.OK) {
			t.Errorf("%s: %v %d, not %d", row.name, g, e, row.one)
		}
		if all, e := trim.All(row.p); e != row.each || len(all) != 0 {
			t.Errorf("%s: all: %v %d, not %d", row.name, all, e, row.each)
		}
	}
}

// kept is D1 said another way: a place is as many further ahead as dead ops stood before it.
func kept(f api.Func, heights []int) api.Func {
	g := api.Func{Args: f.Args, Locals: f.Locals}
	for at, x := range f.Code {
		if heights[at] == -1 {
			continue
		}
		if x.Kind == api.Jump || x.Kind == api.Zero {
			for _, h := range heights[:x.A] {
				if h == -1 {
					x.A--
				}
			}
		}
		g.Code = append(g.Code, x)
	}
	return g
}

func TestD1Drawn(t *testing.T) {
	r := rand.New(rand.NewSource(11))
	shorter := 0
	for i := range 6000 {
		p := drawn(r)
		if i%2 == 0 {
			p = built(r)
		}
		var want []api.Func
		for f := range p {
			g, e := trim.Func(p, f)
			heights, he := flow.Heights(p, f)
			if e != he || e != api.OK && !isNoFunc(g) {
				t.Fatalf("%v, function %d: %v %d, not %d", p, f, g, e, he)
			}
			if e != api.OK {
				continue
			}
			w := kept(p[f], heights)
			if !samePrograms([]api.Func{g}, []api.Func{w}) {
				t.Fatalf("%v, function %d: %v, not %v", p, f, g, w)
			}
			want = append(want, w)
			shorter += len(p[f].Code) - len(g.Code)
		}
		all, e := trim.All(p)
		if c := prog.Check(p); e != c {
			t.Fatalf("%v: %d, not %d", p, e, c)
		}
		if e == api.OK && !samePrograms(all, want) || e != api.OK && len(all) != 0 {
			t.Fatalf("%v: %v %d, not %v", p, all, e, want)
		}
	}
	if shorter < 5000 {
		t.Errorf("only %d ops were trimmed", shorter)
	}
}

// D2: one comes to all that is left, at the height that it had; there is nothing more to trim.
func TestD2Heights(t *testing.T) {
	r := rand.New(rand.NewSource(12))
	for range 2000 {
		p := built(r)
		all, e := trim.All(p)
		if e != api.OK {
			t.Fatalf("%v: %d", p, e)
		}
		for f := range all {
			before, _ := flow.Heights(p, f)
			before = slices.DeleteFunc(before, func(h int) bool { return h == -1 })
			if l, e := flow.Heights(all, f); e != api.OK || !slices.Equal(l, before) {
				t.Fatalf("%v, function %d of %v: %v %d, not %v", p, f, all, l, e, before)
			}
		}
		if again, e := trim.All(all); e != api.OK || !samePrograms(again, all) {
			t.Fatalf("%v: again: %v %d", all, again, e)
		}
	}
}

// opOf is the op that is done next.
func opOf(p []api.Func, s api.State) api.Op {
	frames := s.Fibers[s.Now].Frames
	x := frames[len(frames)-1]
	return p[x.Func].Code[x.At]
}

// D2: step by step, what is trimmed does the same kind of op, puts out the same, and comes to the same end.
func TestD2Runs(t *testing.T) {
	r := rand.New(rand.NewSource(13))
	ends := map[api.Errno]int{}
	for range 2000 {
		p := built(r)
		q, _ := trim.All(p)
		s, u := begun(p), begun(q)
		for range 200 {
			if s.Now != -1 && opOf(p, s).Kind != opOf(q, u).Kind {
				t.Fatalf("%v at %v: %v at %v", p, s, q, u)
			}
			var e, g api.Errno
			s, e = after(p, s)
			u, g = after(q, u)
			if e != g || s.Now != u.Now || !slices.Equal(s.Out, u.Out) {
				t.Fatalf("%v: %v %d: trimmed: %v %d", p, s, e, u, g)
			}
			if e != api.OK {
				ends[e]++
				break
			}
		}
	}
	if ends[api.ErrOver] < 100 {
		t.Errorf("only %d runs came to the end", ends[api.ErrOver])
	}
}
