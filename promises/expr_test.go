package promises

import (
	"fmt"
	"math/big"
	"math/rand"
	"testing"

	"glebe/api"
	"glebe/expr"
)

func node(kind, n int) api.Node { return api.Node{Kind: kind, N: n} }

func num(n int) []api.Node { return []api.Node{node(api.Num, n)} }

func local(n int) []api.Node { return []api.Node{node(api.Local, n)} }

// of is a node of that kind with its parts behind it.
func of(kind int, parts ...[]api.Node) []api.Node {
	e := []api.Node{node(kind, 0)}
	for _, part := range parts {
		e = append(e, part...)
	}
	return e
}

// holdCheck tells a fault, unless Check, and Value with as many locals, tell want.
func holdCheck(t *testing.T, name string, e []api.Node, locals int, want api.Errno) {
	t.Helper()
	if got := expr.Check(e, locals); got != want {
		t.Errorf("%s, %v with %d locals: %d, not %d", name, e, locals, got, want)
	}
	if locals < 0 {
		return
	}
	if v, got := expr.Value(e, make([]int, locals)); got != want || want != api.OK && v != 0 {
		t.Errorf("%s, the value of %v with %d locals: %d %d, not %d", name, e, locals, v, got, want)
	}
}

// holdValue tells a fault, unless e is want.
func holdValue(t *testing.T, e []api.Node, vals []int, want int) {
	t.Helper()
	if got := expr.Check(e, len(vals)); got != api.OK {
		t.Errorf("%v with %d locals: %d", e, len(vals), got)
	}
	if v, got := expr.Value(e, vals); v != want || got != api.OK {
		t.Errorf("%v with %v: %d %d, not %d", e, vals, v, got, want)
	}
}

// nine is 3 times 3, if local 0 is under 5, else 7: the document's example.
func nine() []api.Node {
	return of(api.If, of(api.Under, local(0), num(5)), of(api.Prod, local(0), local(0)), num(7))
}

func TestJ1Example(t *testing.T) {
	rows := map[int]int{3: 9, 4: 16, 5: 7, 6: 7, 0: 0, -2: 4, lowest: 0, highest: 7}
	for v, want := range rows {
		holdValue(t, nine(), []int{v}, want)
		holdValue(t, nine(), []int{v, 8, 9, 10}, want)
	}
}

func TestJ1Locals(t *testing.T) {
	for _, n := range far() {
		if n >= 0 && n <= 4 {
			holdCheck(t, "as many as there may be", num(1), n, api.OK)
			continue
		}
		for _, e := range [][]api.Node{num(1), nil, num(1000), {node(8, 0)}, make([]api.Node, 10)} {
			if got := expr.Check(e, n); got != api.ErrRange {
				t.Errorf("%v with %d locals: %d", e, n, got)
			}
		}
	}
	for _, n := range []int{5, 6, 1000} {
		for _, e := range [][]api.Node{num(1), nil, {node(8, 0)}, make([]api.Node, 10)} {
			if v, got := expr.Value(e, make([]int, n)); v != 0 || got != api.ErrRange {
				t.Errorf("the value of %v with %d locals: %d %d", e, n, v, got)
			}
		}
	}
}

func TestJ1Kinds(t *testing.T) {
	for _, kind := range far() {
		want := api.ErrForm
		if kind < 0 || kind > 7 {
			want = api.ErrKind
		}
		e := append(num(1), node(kind, 0))
		holdCheck(t, "a kind", e, 1, want)
	}
	for kind := -1; kind <= 8; kind++ {
		want := api.OK
		if kind < 0 || kind > 7 {
			want = api.ErrKind
		} else if kind > 1 {
			want = api.ErrForm
		}
		holdCheck(t, "one node", []api.Node{node(kind, 0)}, 1, want)
	}
}

func TestJ1Numbers(t *testing.T) {
	for kind := range 8 {
		for locals := range 5 {
			most := []int{999, locals - 1, 0, 0, 0, 0, 0, 0}[kind]
			for _, n := range append(far(), most, most+1) {
				e := of(kind, num(1), num(1), num(1))[:[]int{1, 1, 3, 3, 3, 3, 3, 4}[kind]]
				e[0].N = n
				want := api.OK
				if n < 0 || n > most {
					want = api.ErrRange
				}
				holdCheck(t, "a number", e, locals, want)
				inner := of(api.Sum, num(1), e)
				holdCheck(t, "a number of a part", inner, locals, want)
			}
		}
	}
}

// J1: where several errors apply, the one that is named first, whichever node it is told of.
func TestJ1Order(t *testing.T) {
	none, far, other := node(8, 0), node(api.Num, 1000), node(-1, 5)
	many := make([]api.Node, 10)
	many[9] = none
	rows := []struct {
		name string
		e    []api.Node
		want api.Errno
	}{
		{"ErrMany ahead of ErrKind", many, api.ErrMany},
		{"ErrMany ahead of ErrRange", append(many[:9:9], far), api.ErrMany},
		{"ErrMany ahead of ErrForm", make([]api.Node, 10), api.ErrMany},
		{"a later ErrKind ahead of ErrRange", []api.Node{far, none}, api.ErrKind},
		{"ErrKind and ErrRange of one node", []api.Node{other}, api.ErrKind},
		{"ErrKind behind the expression", append(num(1), none), api.ErrKind},
		{"ErrKind ahead of ErrForm", []api.Node{node(api.Sum, 0), none}, api.ErrKind},
		{"ErrRange behind the expression", append(num(1), far), api.ErrRange},
		{"ErrRange ahead of ErrForm", []api.Node{node(api.Sum, 0), far}, api.ErrRange},
		{"a local that there is not ahead of ErrForm", []api.Node{node(api.Sum, 0), node(api.Local, 2)}, api.ErrRange},
	}
	for _, row := range rows {
		holdCheck(t, row.name, row.e, 2, row.want)
	}
}

func TestJ1Many(t *testing.T) {
	e := num(1)
	for len(e) < 9 {
		e = of(api.Sum, e, num(1))
		holdValue(t, e, nil, len(e)/2+1)
	}
	deep := num(1)
	for len(deep) < 9 {
		deep = of(api.Sum, num(1), deep)
		holdValue(t, deep, nil, len(deep)/2+1)
	}
	three := of(api.Sum, num(1), num(1))
	holdCheck(t, "ten nodes", of(api.If, three, three, three), 0, api.ErrMany)
	holdCheck(t, "eleven nodes", of(api.Sum, e, num(1)), 0, api.ErrMany)
	holdCheck(t, "very many nodes", make([]api.Node, 1<<20), 0, api.ErrMany)
}

// ends is where the expression ends that begins at node at; behind the last one by far, if it does not.
func ends(e []api.Node, at int) int {
	if at >= len(e) {
		return len(e) + 1
	}
	next := at + 1
	for range []int{0, 0, 2, 2, 2, 2, 2, 3}[e[at].Kind] {
		next = ends(e, next)
	}
	return next
}

// J1: all lists of up to five nodes, by their kinds.
func TestJ1Form(t *testing.T) {
	right := 0
	for length, lists := 0, 1; length <= 5; length, lists = length+1, lists*8 {
		for which := range lists {
			e := make([]api.Node, length)
			for k := range e {
				e[k].Kind = which >> (3 * k) & 7
			}
			want := api.ErrForm
			if ends(e, 0) == length {
				want = api.OK
				right++
			}
			holdCheck(t, "a list", e, 1, want)
		}
	}
	if want := 2 + 5*4 + 8 + 2*5*5*8; right != want {
		t.Errorf("%d were expressions, not %d", right, want)
	}
}

func TestJ1Values(t *testing.T) {
	rows := []struct{ kind, first, second, want int }{
		{api.Sum, 5, 6, 11},
		{api.Sum, highest, 1, lowest},
		{api.Sum, lowest, lowest, 0},
		{api.Diff, 5, 7, -2},
		{api.Diff, 7, 5, 2},
		{api.Diff, lowest, 1, highest},
		{api.Diff, 0, lowest, lowest},
		{api.Prod, -5, 6, -30},
		{api.Prod, highest, 2, -2},
		{api.Prod, lowest, -1, lowest},
		{api.Prod, 1 << 40, 1 << 40, 0},
		{api.Under, 5, 6, 1},
		{api.Under, 6, 5, 0},
		{api.Under, 6, 6, 0},
		{api.Under, lowest, highest, 1},
		{api.Under, highest, lowest, 0},
		{api.Equal, 5, 6, 0},
		{api.Equal, 6, 6, 1},
		{api.Equal, -1, 1, 0},
		{api.Equal, lowest, lowest, 1},
		{api.Equal, 1, 1<<32 + 1, 0},
	}
	for _, row := range rows {
		holdValue(t, of(row.kind, local(0), local(1)), []int{row.first, row.second}, row.want)
		holdValue(t, of(row.kind, local(3), local(1)), []int{88, row.second, 99, row.first}, row.want)
	}
	for n := range 4 {
		holdValue(t, local(n), []int{lowest, -1, 55, highest}, []int{lowest, -1, 55, highest}[n])
	}
	for _, n := range []int{0, 1, 998, 999} {
		holdValue(t, num(n), nil, n)
	}
	choice := of(api.If, local(0), local(1), local(2))
	for _, first := range []int{lowest, -1, 1, 2, 1 << 32, highest} {
		holdValue(t, choice, []int{first, 5, 6}, 5)
		holdValue(t, choice, []int{first, 0, 6}, 0)
	}
	holdValue(t, choice, []int{0, 5, 6}, 6)
	// The parts of an inner one end where they end.
	holdValue(t, of(api.Diff, choice, choice), []int{0, 5, 6}, 0)
	holdValue(t, of(api.If, choice, of(api.Diff, num(20), num(1)), num(3)), []int{1, 0, 1}, 3)
	holdValue(t, of(api.If, choice, of(api.Diff, num(20), num(1)), num(3)), []int{1, 1, 0}, 19)
	holdValue(t, of(api.Diff, of(api.Diff, num(20), num(5)), of(api.Diff, num(3), num(1))), nil, 13)
}

// tree is an expression as a tree.
type tree struct {
	api.Node
	parts []tree
}

// drawnTree has at most that many nodes.
func drawnTree(r *rand.Rand, most, locals int) tree {
	kind := api.Sum + r.Intn(6)
	parts := 2
	if kind == api.If {
		parts = 3
	}
	if most <= parts || r.Intn(6) == 0 {
		if locals > 0 && r.Intn(2) == 0 {
			return tree{Node: node(api.Local, r.Intn(locals))}
		}
		return tree{Node: node(api.Num, []int{0, 1, 2, 999, r.Intn(1000)}[r.Intn(5)])}
	}
	x, left := tree{Node: node(kind, 0)}, most-1
	for k := range parts {
		behind := parts - 1 - k
		part := drawnTree(r, 1+r.Intn(left-behind), locals)
		x.parts = append(x.parts, part)
		left -= len(part.list())
	}
	return x
}

func (x tree) list() []api.Node {
	e := []api.Node{x.Node}
	for _, part := range x.parts {
		e = append(e, part.list()...)
	}
	return e
}

// value reckons without bounds, and goes round at the end of each node.
func (x tree) value(vals []int) int {
	var v []int
	for _, part := range x.parts {
		v = append(v, part.value(vals))
	}
	switch x.Kind {
	case api.Num:
		return x.N
	case api.Local:
		return vals[x.N]
	case api.If:
		return v[1:][map[bool]int{true: 1}[v[0] == 0]]
	}
	a, b := big.NewInt(int64(v[0])), big.NewInt(int64(v[1]))
	switch x.Kind {
	case api.Under:
		return map[int]int{-1: 1}[a.Cmp(b)]
	case api.Equal:
		return map[int]int{0: 1}[a.Cmp(b)]
	case api.Sum:
		a.Add(a, b)
	case api.Diff:
		a.Sub(a, b)
	case api.Prod:
		a.Mul(a, b)
	}
	round := new(big.Int).Lsh(big.NewInt(1), 64)
	return int(a.Mod(a, round).Uint64())
}

func TestJ1Drawn(t *testing.T) {
	r := rand.New(rand.NewSource(22))
	lengths := make([]int, 10)
	for range 20000 {
		vals := drawnVals(r, r.Intn(5))
		x := drawnTree(r, 9, len(vals))
		holdValue(t, x.list(), vals, x.value(vals))
		lengths[len(x.list())]++
	}
	for _, n := range []int{1, 3, 4, 5, 6, 7, 8, 9} {
		if lengths[n] < 100 {
			t.Errorf("only %d had %d nodes", lengths[n], n)
		}
	}
}

func drawnVals(r *rand.Rand, length int) []int {
	vals := make([]int, length)
	for k := range vals {
		vals[k] = []int{lowest, -1, 0, 1, 3, r.Intn(1 << 40), highest}[r.Intn(7)]
	}
	return vals
}

// judgedExpr is J1's Check said another way.
func judgedExpr(e []api.Node, locals int) api.Errno {
	unknown, off := false, false
	for _, x := range e {
		unknown = unknown || x.Kind < 0 || x.Kind > 7
		off = off || x.N < 0 || x.N >= map[int]int{api.Num: 1000, api.Local: locals}[x.Kind] && (x.Kind < 2 || x.N > 0)
	}
	switch {
	case locals < 0 || locals > 4:
		return api.ErrRange
	case len(e) > 9:
		return api.ErrMany
	case unknown:
		return api.ErrKind
	case off:
		return api.ErrRange
	case ends(e, 0) != len(e):
		return api.ErrForm
	}
	return api.OK
}

// spoiltExpr is an expression, mostly with something in it that is not as it must be, and its locals.
func spoiltExpr(r *rand.Rand) ([]api.Node, []int) {
	vals := drawnVals(r, r.Intn(5))
	e := drawnTree(r, 9, len(vals)).list()
	at := r.Intn(len(e))
	switch r.Intn(7) {
	case 0:
		e[at].Kind = r.Intn(10) - 1
	case 1:
		e[at].N = far()[r.Intn(len(far()))]
	case 2:
		e = append(e[:at], e[at+1:]...)
	case 3:
		e = append(e, e[at:]...)
	case 4:
		vals = drawnVals(r, r.Intn(7))
	case 5:
		e[at] = node(far()[r.Intn(len(far()))], far()[r.Intn(len(far()))])
	}
	return e, vals
}

func TestJ1DrawnWrong(t *testing.T) {
	r := rand.New(rand.NewSource(23))
	answers := map[api.Errno]int{}
	for range 20000 {
		e, vals := spoiltExpr(r)
		want := judgedExpr(e, len(vals))
		holdCheck(t, "drawn", e, len(vals), want)
		answers[want]++
	}
	for _, want := range []api.Errno{api.OK, api.ErrForm, api.ErrMany, api.ErrRange, api.ErrKind} {
		if answers[want] < 100 {
			t.Errorf("%d was told only %d times: %s", want, answers[want], fmt.Sprint(answers))
		}
	}
}
