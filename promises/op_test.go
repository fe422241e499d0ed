package promises

import (
	"math"
	"testing"

	"glebe/api"
	"glebe/op"
)

// A1: what each kind takes and leaves, told here a second time.
func TestA1Effect(t *testing.T) {
	want := map[int][2]int{
		api.Push: {0, 1}, api.Pop: {1, 0}, api.Load: {0, 1}, api.Store: {1, 0},
		api.Add: {2, 1}, api.Sub: {2, 1}, api.Mul: {2, 1}, api.Less: {2, 1}, api.Same: {2, 1},
		api.Jump: {0, 0}, api.Zero: {1, 0}, api.Return: {1, 0},
		api.Make: {0, 1}, api.Resume: {2, 1}, api.Yield: {1, 1}, api.Put: {1, 0},
	}
	if len(want) != 16 {
		t.Fatalf("%d kinds", len(want))
	}
	for kind, w := range want {
		// But for a Call, it does not matter what A and the program are.
		for _, a := range far() {
			for _, p := range [][]api.Func{nil, count()} {
				takes, leaves, e := op.Effect(p, o(kind, a))
				if takes != w[0] || leaves != w[1] || e != api.OK {
					t.Errorf("kind %d, A %d: %d %d %d", kind, a, takes, leaves, e)
				}
			}
		}
	}
}

func TestA1EffectOfCall(t *testing.T) {
	var p []api.Func
	for args := range 5 {
		p = append(p, api.Func{Args: args, Locals: 4})
	}
	for f := range p {
		takes, leaves, e := op.Effect(p, o(api.Call, f))
		if takes != f || leaves != 1 || e != api.OK {
			t.Errorf("Call %d: %d %d %d", f, takes, leaves, e)
		}
	}
	for _, a := range []int{math.MinInt, -1, 5, 6, math.MaxInt} {
		takes, leaves, e := op.Effect(p, o(api.Call, a))
		if takes != 0 || leaves != 0 || e != api.ErrNone {
			t.Errorf("Call %d: %d %d %d", a, takes, leaves, e)
		}
	}
	if _, _, e := op.Effect(nil, o(api.Call, 0)); e != api.ErrNone {
		t.Errorf("Call of no program: %d", e)
	}
}

func TestA1EffectOfNoKind(t *testing.T) {
	for _, kind := range []int{math.MinInt, -1, 17, 18, math.MaxInt} {
		for _, a := range far() {
			takes, leaves, e := op.Effect(count(), o(kind, a))
			if takes != 0 || leaves != 0 || e != api.ErrKind {
				t.Errorf("kind %d, A %d: %d %d %d", kind, a, takes, leaves, e)
			}
		}
	}
}

// checked are programs of which function 0 is checked.
type checked struct {
	name string
	p    []api.Func
	want api.Errno
}

func runChecked(t *testing.T, rows []checked) {
	t.Helper()
	for _, row := range rows {
		if e := op.Check(row.p, 0); e != row.want {
			t.Errorf("%s: %d, not %d", row.name, e, row.want)
		}
	}
}

func TestA2Function(t *testing.T) {
	for _, f := range far() {
		want := api.ErrNone
		if f >= 0 && f < 3 {
			want = api.OK
		}
		if e := op.Check(count(), f); e != want {
			t.Errorf("function %d: %d, not %d", f, e, want)
		}
	}
	if e := op.Check(nil, 0); e != api.ErrNone {
		t.Errorf("no program: %d", e)
	}
}

func TestA2HowManyOps(t *testing.T) {
	runChecked(t, []checked{
		{"no op", one(), api.OK},
		{"MaxOps ops", one(make([]api.Op, api.MaxOps)...), api.OK},
		{"one more", one(make([]api.Op, api.MaxOps+1)...), api.ErrMany},
		{"very many", one(make([]api.Op, 1<<20)...), api.ErrMany},
	})
}

func TestA2ArgsAndLocals(t *testing.T) {
	for _, args := range far() {
		for _, locals := range far() {
			want := api.ErrRange
			if args >= 0 && args <= locals && locals <= api.MaxLocals {
				want = api.OK
			}
			p := []api.Func{{Args: args, Locals: locals}}
			if e := op.Check(p, 0); e != want {
				t.Errorf("Args %d, Locals %d: %d, not %d", args, locals, e, want)
			}
			// A Call names only what has right Args and Locals itself.
			p = append(one(o(api.Call, 1)), p[0])
			if e := op.Check(p, 0); e != want {
				t.Errorf("Call of Args %d, Locals %d: %d, not %d", args, locals, e, want)
			}
			// A Make asks for one of Args besides.
			if want == api.OK && args != 1 {
				want = api.ErrForm
			}
			p[0].Code[0] = o(api.Make, 1)
			if e := op.Check(p, 0); e != want {
				t.Errorf("Make of Args %d, Locals %d: %d, not %d", args, locals, e, want)
			}
		}
	}
}

// A2: the greatest A of each kind; 0 is the least.
func TestA2Numbers(t *testing.T) {
	greatest := func(kind int) int {
		switch kind {
		case api.Push:
			return api.MaxNum
		case api.Load, api.Store:
			return 2 // of three locals
		case api.Jump, api.Zero:
			return 6 // of seven ops
		case api.Call, api.Make:
			return 3 // of four functions
		}
		return 0
	}
	for kind := range 17 {
		for _, a := range append(far(), 7) {
			p := make([]api.Func, 4)
			for f := range p {
				p[f] = api.Func{Args: 1, Locals: 3, Code: make([]api.Op, 7)}
			}
			p[0].Code[4] = o(kind, a)
			want := api.ErrRange
			if a >= 0 && a <= greatest(kind) {
				want = api.OK
			}
			if e := op.Check(p, 0); e != want {
				t.Errorf("kind %d, A %d: %d, not %d", kind, a, e, want)
			}
		}
	}
}

// A2: numbers are those of the function that is checked, not of others.
func TestA2NumbersOfItsOwn(t *testing.T) {
	other := api.Func{Args: 1, Locals: 4, Code: make([]api.Op, 20)}
	runChecked(t, []checked{
		{"local of another", append(one(o(api.Load, 0)), other), api.ErrRange},
		{"local of another, stored", append(one(o(api.Store, 0)), other), api.ErrRange},
		{"op of another", append(one(o(api.Jump, 1)), other), api.ErrRange},
		{"op of another, by Zero", append(one(o(api.Zero, 1)), other), api.ErrRange},
		{"wrong ops of another", append(one(o(api.Call, 1)), api.Func{Code: make([]api.Op, 30)}), api.OK},
		{"itself", one(o(api.Call, 0)), api.OK},
		{"a fiber of itself", []api.Func{{Args: 1, Locals: 1, Code: []api.Op{o(api.Make, 0)}}}, api.OK},
	})
}

func TestA2Kinds(t *testing.T) {
	for _, kind := range far() {
		want := api.ErrKind
		if kind >= 0 && kind <= 16 {
			want = api.OK
		}
		p := []api.Func{{Args: 1, Locals: 1, Code: []api.Op{o(api.Push, 1), o(kind, 0)}}}
		if e := op.Check(p, 0); e != want {
			t.Errorf("kind %d: %d, not %d", kind, e, want)
		}
	}
}

func TestA2Order(t *testing.T) {
	wrong := []api.Op{o(17, -1)}
	many := make([]api.Op, 25)
	many[0] = o(-1, 0)
	runChecked(t, []checked{
		{"ErrMany ahead of ErrRange and ErrKind", []api.Func{{Args: -1, Code: many}}, api.ErrMany},
		{"ErrRange of Args ahead of ErrKind", []api.Func{{Args: 1, Code: wrong}}, api.ErrRange},
		{"ErrKind ahead of ErrRange", one(wrong...), api.ErrKind},
		{"ErrRange ahead of ErrForm", append(one(o(api.Make, 1)), api.Func{Args: 2, Locals: 1}), api.ErrRange},
		{"ErrRange of an earlier op", one(o(api.Push, -1), o(17, 0), o(api.Make, 0)), api.ErrRange},
		{"ErrForm of an earlier op", one(o(api.Make, 0), o(17, 0), o(api.Push, -1)), api.ErrForm},
		{"ErrKind of an earlier op", one(o(17, 0), o(api.Make, 0), o(api.Push, -1)), api.ErrKind},
	})
}
