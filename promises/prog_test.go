package promises

import (
	"math/rand"
	"slices"
	"testing"

	"glebe/api"
	"glebe/flow"
	"glebe/op"
	"glebe/prog"
)

// many is a program of n functions that are right.
func many(n int) []api.Func {
	p := make([]api.Func, n)
	for f := range p {
		p[f].Code = gives()
	}
	return p
}

func TestB1Check(t *testing.T) {
	low := []api.Op{o(api.Pop, 0)} // right ops, no heights
	rows := []struct {
		name string
		p    []api.Func
		want api.Errno
	}{
		{"the example", count(), api.OK},
		{"one function", many(1), api.OK},
		{"MaxFuncs functions", many(api.MaxFuncs), api.OK},
		{"one more", many(api.MaxFuncs + 1), api.ErrMany},
		{"very many", make([]api.Func, 1<<16), api.ErrMany},
		{"nil", nil, api.ErrNone},
		{"empty", []api.Func{}, api.ErrNone},
		{"Args of function 0", with(func(p []api.Func) { p[0].Args = 1 }), api.ErrForm},
		{"Locals of function 0", with(func(p []api.Func) { p[0].Locals = 4 }), api.OK},
		{"too many ops", with(func(p []api.Func) { p[2].Code = make([]api.Op, 25) }), api.ErrMany},
		{"no such kind", with(func(p []api.Func) { p[2].Code[0].Kind = 17 }), api.ErrKind},
		{"no such local", with(func(p []api.Func) { p[2].Code[0].A = 2 }), api.ErrRange},
		{"a fiber of two Args", with(func(p []api.Func) { p[0].Code[0].A = 2 }), api.ErrForm},
		{"no heights of the first", with(func(p []api.Func) { p[0].Code = low }), api.ErrForm},
		{"no heights of the last", with(func(p []api.Func) { p[2].Code = low }), api.ErrForm},
		{"no ops", with(func(p []api.Func) { p[2].Code = nil }), api.ErrForm},
		{"wrong function that nobody calls", []api.Func{{Code: gives()}, {Code: low}}, api.ErrForm},
	}
	for _, row := range rows {
		if e := prog.Check(row.p); e != row.want {
			t.Errorf("%s: %d, not %d", row.name, e, row.want)
		}
	}
}

func TestB1Order(t *testing.T) {
	rows := []struct {
		name string
		p    []api.Func
		want api.Errno
	}{
		{"ErrMany ahead of Args and ops", slices.Repeat([]api.Func{{Args: 1, Code: []api.Op{o(17, 0)}}}, 6), api.ErrMany},
		{"Args of function 0 ahead of its ops", []api.Func{{Args: 1, Code: []api.Op{o(17, 0)}}}, api.ErrForm},
		{"Args of function 0 ahead of its bounds", []api.Func{{Args: 9, Code: gives()}}, api.ErrForm},
		{"an op's error of the first function", []api.Func{{Code: []api.Op{o(17, 0)}}, {Args: 9}}, api.ErrKind},
		{"the same, the other way round", []api.Func{{Locals: 9}, {Code: []api.Op{o(17, 0)}}}, api.ErrRange},
		{"an op's error ahead of an earlier function's heights", []api.Func{{}, {Code: []api.Op{o(17, 0)}}}, api.ErrKind},
	}
	for _, row := range rows {
		if e := prog.Check(row.p); e != row.want {
			t.Errorf("%s: %d, not %d", row.name, e, row.want)
		}
	}
}

// B1: right is just what is right function by function.
func TestB1Drawn(t *testing.T) {
	r := rand.New(rand.NewSource(2))
	right := 0
	for range 10000 {
		p := drawn(r)
		want := api.OK
		for f := range p {
			if _, e := flow.Heights(p, f); e != api.OK {
				want = api.ErrForm
			}
		}
		for f := range p {
			if e := op.Check(p, f); e != api.OK {
				want = e
				break
			}
		}
		if e := prog.Check(p); e != want {
			t.Fatalf("%v: %d, not %d", p, e, want)
		}
		if want == api.OK {
			right++
		}
	}
	if right < 50 {
		t.Errorf("only %d right programs were drawn", right)
	}
}

func TestB2Example(t *testing.T) {
	want := [][]bool{{true, true, true}, {false, true, true}, {false, false, true}}
	for f, w := range want {
		if l, e := prog.Calls(count(), f); !slices.Equal(l, w) || e != api.OK {
			t.Errorf("function %d: %v %d", f, l, e)
		}
	}
}

func TestB2Ways(t *testing.T) {
	call := func(f int) []api.Op { return []api.Op{o(api.Call, f), o(api.Return, 0)} }
	rows := []struct {
		name string
		p    []api.Func
		f    int
		want []bool
	}{
		{"itself alone", many(3), 1, []bool{false, true, false}},
		{"itself by a Call", []api.Func{{Code: call(0)}, {Code: gives()}}, 0, []bool{true, false}},
		{"a ring", []api.Func{{Code: call(2)}, {Code: call(0)}, {Code: call(1)}, {Code: call(1)}}, 0, []bool{true, true, true, false}},
		{"a chain", []api.Func{{Code: gives()}, {Code: call(0)}, {Code: call(1)}, {Code: call(2)}}, 3, []bool{true, true, true, true}},
		{"from its middle", []api.Func{{Code: gives()}, {Code: call(0)}, {Code: call(1)}, {Code: call(2)}}, 1, []bool{true, true, false, false}},
		{"by a Make", []api.Func{{Code: []api.Op{o(api.Make, 1), o(api.Return, 0)}}, {Args: 1, Locals: 1, Code: gives()}}, 0, []bool{true, true}},
		{"by an op to which one never comes", []api.Func{{Code: append(gives(), o(api.Call, 1))}, {Code: append(gives(), o(api.Call, 2))}, {Code: gives()}}, 0, []bool{true, true, true}},
		{"As of other kinds name no function", []api.Func{{Locals: 2, Code: []api.Op{o(api.Push, 1), o(api.Store, 1), o(api.Jump, 3), o(api.Load, 1), o(api.Zero, 6), o(api.Jump, 6), o(api.Push, 1), o(api.Return, 0)}}, {Code: gives()}}, 0, []bool{true, false}},
	}
	for _, row := range rows {
		if l, e := prog.Calls(row.p, row.f); !slices.Equal(l, row.want) || e != api.OK {
			t.Errorf("%s: %v %d, not %v", row.name, l, e, row.want)
		}
	}
}

func TestB2Errors(t *testing.T) {
	for _, f := range far() {
		if l, e := prog.Calls(count(), f); (f < 0 || f > 2) && (len(l) != 0 || e != api.ErrNone) {
			t.Errorf("function %d: %v %d", f, l, e)
		}
		// Check's errors come first, whatever f is.
		wrong := with(func(p []api.Func) { p[2].Code[0].Kind = 17 })
		if l, e := prog.Calls(wrong, f); len(l) != 0 || e != api.ErrKind {
			t.Errorf("wrong program, function %d: %v %d", f, l, e)
		}
		if l, e := prog.Calls(make([]api.Func, 6), f); len(l) != 0 || e != api.ErrMany {
			t.Errorf("six functions, function %d: %v %d", f, l, e)
		}
	}
}

// reached is B2 said another way: what is named is added till nothing more is.
func reached(p []api.Func, f int) []bool {
	in := make([]bool, len(p))
	in[f] = true
	for range p {
		for g := range p {
			for _, x := range p[g].Code {
				if in[g] && (x.Kind == api.Call || x.Kind == api.Make) {
					in[x.A] = true
				}
			}
		}
	}
	return in
}

func TestB2Drawn(t *testing.T) {
	r := rand.New(rand.NewSource(3))
	for range 10000 {
		p := drawn(r)
		check := prog.Check(p)
		for f := range p {
			l, e := prog.Calls(p, f)
			if e != check {
				t.Fatalf("%v: %d, not %d", p, e, check)
			}
			if e == api.OK && !slices.Equal(l, reached(p, f)) {
				t.Fatalf("%v, function %d: %v", p, f, l)
			}
		}
	}
}
