package promises

import (
	"math/rand"
	"slices"
	"testing"

	"glebe/api"
	"glebe/expr"
	"glebe/forge"
	"glebe/prog"
	"glebe/run"
)

// holdFunc tells a fault, unless Func makes that code of e.
func holdFunc(t *testing.T, name string, e []api.Node, locals int, code ...api.Op) {
	t.Helper()
	want := []api.Func{{Args: locals, Locals: locals, Code: code}}
	if f, wrong := forge.Func(e, locals); wrong != api.OK || !samePrograms([]api.Func{f}, want) {
		t.Errorf("%s, %v with %d locals: %v %d, not %v", name, e, locals, f, wrong, want)
	}
}

// holdProg tells a fault, unless Prog makes of e and vals a first function of that code, and Func of e behind it.
func holdProg(t *testing.T, name string, e []api.Node, vals []int, code ...api.Op) {
	t.Helper()
	f, _ := forge.Func(e, len(vals))
	want := []api.Func{{Code: code}, f}
	if p, wrong := forge.Prog(e, vals); wrong != api.OK || !samePrograms(p, want) {
		t.Errorf("%s, %v with %v: %v %d, not %v", name, e, vals, p, wrong, want)
	}
}

// refusesFunc and refusesProg tell a fault, unless nothing is made, for the reason want.
func refusesFunc(t *testing.T, name string, e []api.Node, locals int, want api.Errno) {
	t.Helper()
	if f, wrong := forge.Func(e, locals); !isNoFunc(f) || wrong != want {
		t.Errorf("%s, %v with %d locals: %v %d, not %d", name, e, locals, f, wrong, want)
	}
}

func refusesProg(t *testing.T, name string, e []api.Node, vals []int, want api.Errno) {
	t.Helper()
	if p, wrong := forge.Prog(e, vals); len(p) != 0 || wrong != want {
		t.Errorf("%s, %v with %v: %v %d, not %d", name, e, vals, p, wrong, want)
	}
}

func TestK1Example(t *testing.T) {
	code := []api.Op{
		o(api.Load, 0), o(api.Push, 5), o(api.Less, 0), o(api.Zero, 8),
		o(api.Load, 0), o(api.Load, 0), o(api.Mul, 0), o(api.Jump, 9),
		o(api.Push, 7), o(api.Return, 0),
	}
	holdFunc(t, "the example", nine(), 1, code...)
	holdFunc(t, "more locals", nine(), 4, code...)
	holdProg(t, "the example", nine(), []int{3}, o(api.Push, 3), o(api.Call, 1), o(api.Return, 0))
	p, _ := forge.Prog(nine(), []int{3})
	if out, steps, e := run.All(p, 500); !slices.Equal(out, []int{9}) || steps != 12 || e != api.OK {
		t.Errorf("%v by %d steps, %d", out, steps, e)
	}
	p, _ = forge.Prog(nine(), []int{5})
	if out, steps, e := run.All(p, 500); !slices.Equal(out, []int{7}) || steps != 9 || e != api.OK {
		t.Errorf("else %v by %d steps, %d", out, steps, e)
	}
}

func TestK1Nodes(t *testing.T) {
	end := o(api.Return, 0)
	for _, n := range []int{0, 1, 7, 999} {
		holdFunc(t, "a Num", num(n), 0, o(api.Push, n), end)
		holdFunc(t, "a Num with locals", num(n), 4, o(api.Push, n), end)
	}
	for n := range 4 {
		for locals := n + 1; locals <= 4; locals++ {
			holdFunc(t, "a Local", local(n), locals, o(api.Load, n), end)
		}
	}
	kinds := map[int]int{api.Sum: 4, api.Diff: 5, api.Prod: 6, api.Under: 7, api.Equal: 8}
	for kind, becomes := range kinds {
		two := of(kind, num(3), local(1))
		holdFunc(t, "of two", two, 2, o(api.Push, 3), o(api.Load, 1), o(becomes, 0), end)
		holdFunc(t, "the other way", of(kind, local(1), num(3)), 2, o(api.Load, 1), o(api.Push, 3), o(becomes, 0), end)
		holdFunc(t, "the first one of two", of(kind, two, num(4)), 2,
			o(api.Push, 3), o(api.Load, 1), o(becomes, 0), o(api.Push, 4), o(becomes, 0), end)
		holdFunc(t, "the second one of two", of(kind, num(4), two), 2,
			o(api.Push, 4), o(api.Push, 3), o(api.Load, 1), o(becomes, 0), o(becomes, 0), end)
	}
}

// K1: where an If goes, whatever its parts are, and wherever it stands.
func TestK1If(t *testing.T) {
	choice := of(api.If, num(1), num(2), num(3))
	holdFunc(t, "alone", choice, 0,
		o(api.Push, 1), o(api.Zero, 4), o(api.Push, 2), o(api.Jump, 5), o(api.Push, 3), o(api.Return, 0))
	holdFunc(t, "the first part", of(api.If, choice, num(4), num(5)), 0,
		o(api.Push, 1), o(api.Zero, 4), o(api.Push, 2), o(api.Jump, 5), o(api.Push, 3),
		o(api.Zero, 8), o(api.Push, 4), o(api.Jump, 9), o(api.Push, 5), o(api.Return, 0))
	holdFunc(t, "the second part", of(api.If, num(4), choice, num(5)), 0,
		o(api.Push, 4), o(api.Zero, 8),
		o(api.Push, 1), o(api.Zero, 6), o(api.Push, 2), o(api.Jump, 7), o(api.Push, 3),
		o(api.Jump, 9), o(api.Push, 5), o(api.Return, 0))
	holdFunc(t, "the third part", of(api.If, num(4), num(5), choice), 0,
		o(api.Push, 4), o(api.Zero, 4), o(api.Push, 5), o(api.Jump, 9),
		o(api.Push, 1), o(api.Zero, 8), o(api.Push, 2), o(api.Jump, 9), o(api.Push, 3), o(api.Return, 0))
	holdFunc(t, "behind another one", of(api.Sum, num(4), choice), 0,
		o(api.Push, 4), o(api.Push, 1), o(api.Zero, 5), o(api.Push, 2), o(api.Jump, 6), o(api.Push, 3),
		o(api.Add, 0), o(api.Return, 0))
	holdFunc(t, "ahead of another one", of(api.Diff, choice, num(4)), 0,
		o(api.Push, 1), o(api.Zero, 4), o(api.Push, 2), o(api.Jump, 5), o(api.Push, 3),
		o(api.Push, 4), o(api.Sub, 0), o(api.Return, 0))
}

func TestK1Prog(t *testing.T) {
	end := []api.Op{o(api.Call, 1), o(api.Return, 0)}
	holdProg(t, "no vals", num(5), nil, end...)
	vals := []int{999, 0, 41, 7}
	var pushes []api.Op
	for n, v := range vals {
		pushes = append(pushes, o(api.Push, v))
		for k := range n + 1 {
			holdProg(t, "each local", local(k), vals[:n+1], slices.Concat(pushes, end)...)
		}
		holdProg(t, "no local is asked for", num(5), vals[:n+1], slices.Concat(pushes, end)...)
	}
}

func TestK1Errors(t *testing.T) {
	rows := []struct {
		name string
		e    []api.Node
		want api.Errno
	}{
		{"no nodes", nil, api.ErrForm},
		{"a part is missing", of(api.Sum, num(1)), api.ErrForm},
		{"one more", append(num(1), num(1)...), api.ErrForm},
		{"ten nodes", make([]api.Node, 10), api.ErrMany},
		{"no such kind", []api.Node{node(8, 0)}, api.ErrKind},
		{"kind -1", []api.Node{node(-1, 0)}, api.ErrKind},
		{"number 1000", num(1000), api.ErrRange},
		{"number -1", num(-1), api.ErrRange},
		{"local 2", local(2), api.ErrRange},
		{"an If's number", []api.Node{node(api.If, 1), {}, {}, {}}, api.ErrRange},
	}
	for _, row := range rows {
		refusesFunc(t, row.name, row.e, 2, row.want)
		refusesProg(t, row.name, row.e, []int{1, 2}, row.want)
		// What expr.Check tells comes ahead of what is told of vals.
		for _, vals := range [][]int{{1000, 1}, {1, -1}, {-1, 1000}} {
			refusesProg(t, row.name, row.e, vals, row.want)
		}
	}
	for _, n := range far() {
		if n < 0 || n > 4 {
			refusesFunc(t, "so many locals", num(1), n, api.ErrRange)
			refusesFunc(t, "so many locals, no nodes", nil, n, api.ErrRange)
		}
		for k := range 4 {
			vals := make([]int, 4)
			vals[k] = n
			if n < 0 || n > 999 {
				refusesProg(t, "such a val", num(1), vals, api.ErrRange)
			} else if _, e := forge.Prog(num(1), vals); e != api.OK {
				t.Errorf("%v: %d", vals, e)
			}
		}
	}
	refusesProg(t, "five vals", num(1), make([]int, 5), api.ErrRange)
	refusesProg(t, "five vals, no nodes", nil, make([]int, 5), api.ErrRange)
	refusesProg(t, "very many vals", nine(), make([]int, 1<<16), api.ErrRange)
}

// codeOf is K1 said another way: the ops of x, if they begin at that place.
func codeOf(x tree, at int) []api.Op {
	var parts [3][]api.Op
	for k, part := range x.parts {
		extra := 0
		if x.Kind == api.If && k > 0 {
			extra = k // the Zero, and the Jump
		}
		parts[k] = codeOf(part, at+len(parts[0])+len(parts[1])+extra)
	}
	switch x.Kind {
	case api.Num:
		return []api.Op{o(api.Push, x.N)}
	case api.Local:
		return []api.Op{o(api.Load, x.N)}
	case api.If:
		third := at + len(parts[0]) + len(parts[1]) + 2
		zero, jump := o(api.Zero, third), o(api.Jump, third+len(parts[2]))
		return slices.Concat(parts[0], []api.Op{zero}, parts[1], []api.Op{jump}, parts[2])
	}
	return slices.Concat(parts[0], parts[1], []api.Op{o(x.Kind-api.Sum+api.Add, 0)})
}

// smallVals are values that a Push may have.
func smallVals(r *rand.Rand, length int) []int {
	vals := make([]int, length)
	for k := range vals {
		vals[k] = []int{0, 1, 5, 998, 999, r.Intn(1000)}[r.Intn(6)]
	}
	return vals
}

func TestK1Drawn(t *testing.T) {
	r := rand.New(rand.NewSource(28))
	longest := 0
	for range 10000 {
		vals := smallVals(r, r.Intn(5))
		x := drawnTree(r, 9, len(vals))
		code := append(codeOf(x, 0), o(api.Return, 0))
		holdFunc(t, "drawn", x.list(), len(vals), code...)
		var first []api.Op
		for _, v := range vals {
			first = append(first, o(api.Push, v))
		}
		holdProg(t, "drawn", x.list(), vals, append(first, o(api.Call, 1), o(api.Return, 0))...)
		longest = max(longest, len(code))
	}
	if longest != 12 {
		t.Errorf("the longest one has %d ops", longest)
	}
}

func TestK1DrawnWrong(t *testing.T) {
	r := rand.New(rand.NewSource(29))
	answers := map[api.Errno]int{}
	for range 10000 {
		e, vals := spoiltExpr(r)
		want := judgedExpr(e, len(vals))
		if f, wrong := forge.Func(e, len(vals)); wrong != want || wrong != api.OK && !isNoFunc(f) {
			t.Fatalf("%v with %d locals: %v %d, not %d", e, len(vals), f, wrong, want)
		}
		if want == api.OK && len(vals) > 0 && (slices.Min(vals) < 0 || slices.Max(vals) > 999) {
			want = api.ErrRange
		}
		if p, wrong := forge.Prog(e, vals); wrong != want || wrong != api.OK && len(p) != 0 {
			t.Fatalf("%v with %v: %v %d, not %d", e, vals, p, wrong, want)
		}
		answers[want]++
	}
	for _, e := range []api.Errno{api.OK, api.ErrForm, api.ErrMany, api.ErrRange, api.ErrKind} {
		if answers[e] < 50 {
			t.Errorf("%d was told only %d times", e, answers[e])
		}
	}
}

// K2: the program is right, comes to its end, and puts out what the expression is, and nothing else.
func TestK2(t *testing.T) {
	r := rand.New(rand.NewSource(30))
	below, far := 0, 0
	for range 10000 {
		vals := smallVals(r, r.Intn(5))
		x := drawnTree(r, 9, len(vals))
		want := x.value(vals)
		p, e := forge.Prog(x.list(), vals)
		if c := prog.Check(p); e != api.OK || c != api.OK {
			t.Fatalf("%v with %v: %v %d, and it is not right: %d", x.list(), vals, p, e, c)
		}
		if v, _ := expr.Value(x.list(), vals); v != want {
			t.Fatalf("%v with %v: is %d, not %d", x.list(), vals, v, want)
		}
		if out, n, e := run.All(p, 500); !slices.Equal(out, []int{want}) || e != api.OK {
			t.Fatalf("%v with %v: %v by %d steps, %d, not %d", x.list(), vals, out, n, e, want)
		}
		if want < 0 {
			below++
		}
		if want > 999 {
			far++
		}
	}
	if below < 100 || far < 100 {
		t.Errorf("only %d were below 0, %d over 999", below, far)
	}
}
