package promises

import (
	"math/rand"
	"slices"
	"testing"

	"glebe/api"
	"glebe/flow"
	"glebe/op"
)

func TestC1Example(t *testing.T) {
	want := [][]int{
		{0, 1, 0, 1, 2, 1, 0, 1, 2, 1, 0, 1, 2, 1},
		{0, 1, 1, 0, 1, 2, 1, 1, 0, 1, -1, -1},
		{0, 1, 2, 1},
	}
	for f, w := range want {
		if l, e := flow.Heights(count(), f); !slices.Equal(l, w) || e != api.OK {
			t.Errorf("function %d: %v %d", f, l, e)
		}
	}
}

// C1: function 0's heights; nil stands for ErrForm.
func TestC1Heights(t *testing.T) {
	push, pop, add, give := o(api.Push, 1), o(api.Pop, 0), o(api.Add, 0), o(api.Return, 0)
	jump := func(a int) api.Op { return o(api.Jump, a) }
	zero := func(a int) api.Op { return o(api.Zero, a) }
	rows := []struct {
		name string
		code []api.Op
		want []int
	}{
		{"two ops", []api.Op{push, give}, []int{0, 1}},
		{"no op", nil, nil},
		{"for ever", []api.Op{jump(0)}, []int{0}},
		{"for ever, behind something", []api.Op{push, pop, jump(0)}, []int{0, 1, 0}},
		{"a loop that grows", []api.Op{push, jump(0)}, nil},
		{"over an op", []api.Op{push, jump(3), pop, give}, []int{0, 1, -1, 1}},
		{"back to an op", []api.Op{jump(2), give, push, jump(1)}, []int{0, 1, 0, 1}},
		{"both ways to one op", []api.Op{push, zero(2), push, give}, []int{0, 1, 0, 1}},
		{"two ways that meet", []api.Op{push, zero(4), push, jump(5), push, give}, []int{0, 1, 0, 1, 0, 1}},
		{"two ways that meet at another height", []api.Op{push, zero(4), push, jump(5), jump(5), give}, nil},
		{"a Zero to itself", []api.Op{push, zero(1), push, give}, nil},
		{"a loop out of which one comes", []api.Op{push, zero(0), push, give}, []int{0, 1, 0, 1}},
		{"Pop of nothing", []api.Op{pop, push, give}, nil},
		{"Add of one", []api.Op{push, add, give}, nil},
		{"Add of two", []api.Op{push, push, add, give}, []int{0, 1, 2, 1}},
		{"Resume of one", []api.Op{push, o(api.Resume, 0), give}, nil},
		{"Yield of nothing", []api.Op{o(api.Yield, 0), give}, nil},
		{"Put of nothing", []api.Op{o(api.Put, 0), push, give}, nil},
		{"Zero of nothing", []api.Op{zero(1), push, give}, nil},
		{"behind the last op", []api.Op{push}, nil},
		{"behind the last op by a Zero", []api.Op{push, zero(0)}, nil},
		{"a Jump at the end", []api.Op{push, pop, jump(0)}, []int{0, 1, 0}},
		{"Return of nothing", []api.Op{give}, nil},
		{"Return finds two", []api.Op{push, push, give}, nil},
		{"wrong ops to which one never comes", []api.Op{push, give, give, pop, add, push}, []int{0, 1, -1, -1, -1, -1}},
		{"they go to one to which one comes", []api.Op{push, give, push, push, jump(1)}, []int{0, 1, -1, -1, -1}},
		{"nothing behind a Return", []api.Op{jump(2), give, push, jump(4), give}, []int{0, -1, 0, 1, 1}},
	}
	for _, row := range rows {
		l, e := flow.Heights(one(row.code...), 0)
		want := api.OK
		if row.want == nil {
			want = api.ErrForm
		}
		if !slices.Equal(l, row.want) || e != want {
			t.Errorf("%s: %v %d, not %v", row.name, l, e, row.want)
		}
	}
}

// C1: a Call takes its function's Args, and leaves one.
func TestC1Call(t *testing.T) {
	for args := range 5 {
		for pushed := range 7 {
			var code []api.Op
			var want []int
			for at := range pushed {
				code = append(code, o(api.Push, at))
				want = append(want, at)
			}
			code = append(code, o(api.Call, 1), o(api.Return, 0))
			want = append(want, pushed, 1)
			p := append(one(code...), api.Func{Args: args, Locals: 4})
			l, e := flow.Heights(p, 0)
			if pushed == args && (!slices.Equal(l, want) || e != api.OK) {
				t.Errorf("%d Args, %d there: %v %d", args, pushed, l, e)
			}
			if pushed != args && (len(l) != 0 || e != api.ErrForm) {
				t.Errorf("%d Args, %d there: %v %d", args, pushed, l, e)
			}
		}
	}
}

// C1: as high as MaxStack, not higher, whatever it is that makes it so.
func TestC1MaxStack(t *testing.T) {
	ups := []api.Op{o(api.Push, 1), o(api.Load, 0), o(api.Make, 1), o(api.Call, 2)}
	for _, up := range ups {
		for n := 1; n <= api.MaxStack+1; n++ {
			code := slices.Repeat([]api.Op{up}, n)
			code = append(code, slices.Repeat([]api.Op{o(api.Pop, 0)}, n-1)...)
			code = append(code, o(api.Return, 0))
			p := []api.Func{{Locals: 1, Code: code}, {Args: 1, Locals: 1}, {}}
			l, e := flow.Heights(p, 0)
			if n > api.MaxStack {
				if len(l) != 0 || e != api.ErrForm {
					t.Errorf("%v, %d times: %v %d", up, n, l, e)
				}
				continue
			}
			if e != api.OK || len(l) != 2*n || slices.Max(l) != n || l[2*n-1] != 1 {
				t.Errorf("%v, %d times: %v %d", up, n, l, e)
			}
		}
	}
	// What leaves no more than it takes may be done on a full stack.
	full := slices.Repeat([]api.Op{o(api.Push, 1)}, api.MaxStack)
	full = append(full, o(api.Yield, 0), o(api.Resume, 0), o(api.Jump, 11))
	full = append(full, slices.Repeat([]api.Op{o(api.Pop, 0)}, 6)...)
	full = append(full, o(api.Return, 0))
	want := []int{0, 1, 2, 3, 4, 5, 6, 7, 8, 8, 7, 7, 6, 5, 4, 3, 2, 1}
	if l, e := flow.Heights(one(full...), 0); !slices.Equal(l, want) || e != api.OK {
		t.Errorf("a full stack: %v %d", l, e)
	}
}

func TestC1CheckFirst(t *testing.T) {
	rows := []checked{
		{"no program", nil, api.ErrNone},
		{"too many ops", one(make([]api.Op, 25)...), api.ErrMany},
		{"too many locals", []api.Func{{Locals: 5, Code: gives()}}, api.ErrRange},
		{"no such kind, to which one never comes", one(append(gives(), o(17, 0))...), api.ErrKind},
		{"A out of bounds, to which one never comes", one(append(gives(), o(api.Jump, 3))...), api.ErrRange},
		{"a Return's A", one(o(api.Push, 1), o(api.Return, 1)), api.ErrRange},
		{"ErrKind ahead of what heights ask", one(o(api.Pop, 0), o(17, 0)), api.ErrKind},
		{"a fiber of no Args", one(append(gives(), o(api.Make, 0))...), api.ErrForm},
	}
	for _, row := range rows {
		if l, e := flow.Heights(row.p, 0); len(l) != 0 || e != row.want {
			t.Errorf("%s: %v %d, not %d", row.name, l, e, row.want)
		}
	}
	for _, f := range far() {
		if l, e := flow.Heights(count(), f); (f < 0 || f > 2) && (len(l) != 0 || e != api.ErrNone) {
			t.Errorf("function %d: %v %d", f, l, e)
		}
	}
}

// C1: other functions' heights do not matter.
func TestC1OthersAreNotAsked(t *testing.T) {
	p := []api.Func{{Code: gives()}, {Code: []api.Op{o(api.Pop, 0)}}}
	if l, e := flow.Heights(p, 0); !slices.Equal(l, []int{0, 1}) || e != api.OK {
		t.Errorf("function 0: %v %d", l, e)
	}
	if l, e := flow.Heights(p, 1); len(l) != 0 || e != api.ErrForm {
		t.Errorf("function 1: %v %d", l, e)
	}
}

// spots is C1 said another way: all pairs of an op and a height to which one comes; false, if one of them may not be.
func spots(p []api.Func, f int) (map[[2]int]bool, bool) {
	code, seen, right := p[f].Code, map[[2]int]bool{}, true
	todo := [][2]int{{0, 0}}
	for len(todo) > 0 {
		at, height := todo[0][0], todo[0][1]
		todo = todo[1:]
		if at >= len(code) || height < 0 || height > api.MaxStack {
			right = false
			continue
		}
		if seen[[2]int{at, height}] {
			continue
		}
		seen[[2]int{at, height}] = true
		x := code[at]
		takes, leaves, _ := op.Effect(p, x)
		if takes > height || x.Kind == api.Return && height != 1 {
			right = false
			continue
		}
		height += leaves - takes
		if x.Kind == api.Jump || x.Kind == api.Zero {
			todo = append(todo, [2]int{x.A, height})
		}
		if x.Kind != api.Jump && x.Kind != api.Return {
			todo = append(todo, [2]int{at + 1, height})
		}
	}
	return seen, right
}

// wanted are the heights that the spots tell; false, if there are none.
func wanted(p []api.Func, f int) ([]int, bool) {
	seen, right := spots(p, f)
	l := slices.Repeat([]int{-1}, len(p[f].Code))
	for spot := range seen {
		right = right && l[spot[0]] == -1
		l[spot[0]] = spot[1]
	}
	return l, right
}

func TestC1Drawn(t *testing.T) {
	r := rand.New(rand.NewSource(4))
	right := 0
	for range 20000 {
		p := drawn(r)
		for f := range p {
			l, e := flow.Heights(p, f)
			if c := op.Check(p, f); c != api.OK {
				if e != c || len(l) != 0 {
					t.Fatalf("%v, function %d: %v %d, not %d", p, f, l, e, c)
				}
				continue
			}
			want, ok := wanted(p, f)
			if ok && (e != api.OK || !slices.Equal(l, want)) {
				t.Fatalf("%v, function %d: %v %d, not %v", p, f, l, e, want)
			}
			if !ok && (e != api.ErrForm || len(l) != 0) {
				t.Fatalf("%v, function %d: %v %d, not ErrForm", p, f, l, e)
			}
			if ok {
				right++
			}
		}
	}
	if right < 500 {
		t.Errorf("only %d right functions were drawn", right)
	}
}
