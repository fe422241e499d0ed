package promises

import (
	"fmt"
	"math/rand"
	"slices"
	"strings"
	"testing"

	"glebe/api"
	"glebe/chain"
	"glebe/desk"
	"glebe/expr"
	"glebe/flow"
	"glebe/forge"
	"glebe/op"
	"glebe/prog"
	"glebe/run"
	"glebe/save"
	"glebe/state"
	"glebe/step"
	"glebe/text"
	"glebe/trim"
)

// told is all that the calls answer of p and f.
func told(p []api.Func, f int) string {
	heights, e := flow.Heights(p, f)
	calls, g := prog.Calls(p, f)
	trimmed, h := trim.Func(p, f)
	all, i := trim.All(p)
	begin, j := state.Begin(p)
	lines, k := text.Show(p)
	s := fmt.Sprint(op.Check(p, f), prog.Check(p), len(heights), heights, e, len(calls), calls, g, trimmed, h, all, i, begin, j, lines, k)
	for _, fuel := range []int{f, 30} {
		out, steps, e := run.All(p, fuel)
		s += fmt.Sprint(";", out, steps, e)
	}
	for _, b := range []string{"", bytesOf(four()), "\x00\x01\x00\x00\x00"} {
		back, e := save.Read(p, b)
		s += fmt.Sprint(";", back, e)
	}
	for _, x := range []api.Op{o(api.Call, f), o(f, 0), o(api.Add, f)} {
		takes, leaves, e := op.Effect(p, x)
		s += fmt.Sprint(";", takes, leaves, e)
	}
	return s
}

// toldOf is all that the calls answer of p, s and n.
func toldOf(p []api.Func, s api.State, n int) string {
	line, e := chain.Line(p, s)
	kind, g := chain.Kind(p, s, n)
	next, h := step.Do(p, s)
	b, i := save.Write(p, s)
	back, j := save.Read(p, b)
	all := fmt.Sprint(state.Check(p, s), line, e, kind, g, next, h, b, i, back, j)
	for _, fuel := range []int{n, 0, 30} {
		end, steps, e := run.Run(p, s, fuel)
		all += fmt.Sprint(";", end, steps, e)
	}
	return all
}

// toldOfExpr is all that the calls answer of e and vals.
func toldOfExpr(e []api.Node, vals []int) string {
	v, wrong := expr.Value(e, vals)
	f, g := forge.Func(e, len(vals))
	p, h := forge.Prog(e, vals)
	return fmt.Sprint(expr.Check(e, len(vals)), expr.Check(e, 2), v, wrong, f, g, p, h)
}

// toldOfTexts is all that the calls answer of the program s and the script t.
func toldOfTexts(s, t string) string {
	p, e := text.Read(s)
	given, g := desk.Play(s, t)
	return fmt.Sprint(p, e, given, g)
}

// wildText is a text of any bytes, or of bytes that stand in programs and scripts.
func wildText(r *rand.Rand) string {
	const some = "func 0 1\npush 2\nreturn\nstep heights out line"
	b := make([]byte, r.Intn(80))
	for i := range b {
		b[i] = byte(r.Intn(256))
		if r.Intn(8) > 0 {
			b[i] = some[r.Intn(len(some))]
		}
	}
	return string(b)
}

// spoiltTexts are a program and a script, mostly with something in them that is not as it must be.
func spoiltTexts(r *rand.Rand) (string, string) {
	s, t := textOf(built(r)), strings.Join(drawnScript(r), "\n")+"\n"
	switch r.Intn(6) {
	case 0:
		s = turnedText(r, s)
	case 1:
		t = turnedText(r, t)
	case 2:
		t = wildText(r)
	case 3:
		s = wildText(r)
	}
	return s, t
}

// roomyExpr has what e and vals have, and behind each spare room with something in it.
func roomyExpr(e []api.Node, vals []int) ([]api.Node, []int) {
	more := append(append([]api.Node{}, e...), node(-89, -90), node(-91, -92))
	others := append(append([]int{}, vals...), -93, -94)
	return more[:len(e)], others[:len(vals)]
}

// wild is a program of numbers that are anything.
func wild(r *rand.Rand) []api.Func {
	some := func() int { return far()[r.Intn(len(far()))] }
	p := make([]api.Func, r.Intn(8))
	for f := range p {
		p[f] = api.Func{Args: some(), Locals: some(), Code: make([]api.Op, r.Intn(30))}
		for at := range p[f].Code {
			p[f].Code[at] = o(some(), some())
		}
	}
	return p
}

// spoilt is a right or drawn program with some numbers that are anything.
func spoilt(r *rand.Rand) []api.Func {
	some := func() int { return far()[r.Intn(len(far()))] }
	p := count()
	if r.Intn(2) == 0 {
		p = drawn(r)
	}
	for range r.Intn(3) {
		f := r.Intn(len(p))
		switch r.Intn(4) {
		case 0:
			p[f].Args = some()
		case 1:
			p[f].Locals = some()
		case 2:
			p[f].Code[r.Intn(len(p[f].Code))].A = some()
		case 3:
			p[f].Code[r.Intn(len(p[f].Code))].Kind = some()
		}
	}
	return p
}

// wildState is a state of numbers that are anything.
func wildState(r *rand.Rand) api.State {
	some := func() int { return far()[r.Intn(len(far()))] }
	s := api.State{Fibers: make([]api.Fiber, r.Intn(7)), Now: some(), Out: make([]int, r.Intn(33))}
	for n := range s.Fibers {
		s.Fibers[n] = api.Fiber{Frames: make([]api.Frame, r.Intn(8)), Caller: some()}
		for k := range s.Fibers[n].Frames {
			s.Fibers[n].Frames[k] = frame(some(), some(), make([]int, r.Intn(6)), make([]int, r.Intn(10)))
		}
	}
	return s
}

// spoiltState is a program, and a state of it, or one that it has come to, changed by some numbers that are anything.
func spoiltState(r *rand.Rand) ([]api.Func, api.State) {
	some := func() int { return far()[r.Intn(len(far()))] }
	p, s := count(), four()
	if r.Intn(2) == 0 {
		p = built(r)
		l := reachedStates(p, 40)
		s = cloneState(l[len(l)-1])
	}
	b := &s.Fibers[r.Intn(len(s.Fibers))]
	switch r.Intn(8) {
	case 0:
		s.Now = some()
	case 1:
		b.Caller = some()
	case 2:
		disturb(r, p, &s)
	case 3:
		p = spoilt(r)
	case 4, 5:
		if len(b.Frames) > 0 {
			b.Frames[0].Func = some()
		}
	case 6:
		if len(b.Frames) > 0 {
			b.Frames[len(b.Frames)-1].At = some()
		}
	}
	return p, s
}

// P1: nothing panics, and with an error all else is its zero value.
func TestP1(t *testing.T) {
	r := rand.New(rand.NewSource(5))
	for i := range 4000 {
		p := wild(r)
		if i%2 == 0 {
			p = spoilt(r)
		}
		for _, f := range []int{far()[r.Intn(len(far()))], r.Intn(4)} {
			if l, e := flow.Heights(p, f); e != api.OK && len(l) != 0 {
				t.Fatalf("%v, function %d: heights %v %d", p, f, l, e)
			}
			if l, e := prog.Calls(p, f); e != api.OK && len(l) != 0 {
				t.Fatalf("%v, function %d: calls %v %d", p, f, l, e)
			}
			if g, e := trim.Func(p, f); e != api.OK && !isNoFunc(g) {
				t.Fatalf("%v, function %d: trimmed %v %d", p, f, g, e)
			}
			x := o(r.Intn(20)-1, f)
			if takes, leaves, e := op.Effect(p, x); e != api.OK && (takes != 0 || leaves != 0) {
				t.Fatalf("%v, %v: effect %d %d %d", p, x, takes, leaves, e)
			}
			told(p, f)
		}
		if l, e := trim.All(p); e != api.OK && len(l) != 0 {
			t.Fatalf("%v: all trimmed %v %d", p, l, e)
		}
		if s, e := state.Begin(p); e != api.OK && !isNoState(s) {
			t.Fatalf("%v: begins %v %d", p, s, e)
		}
		if lines, e := text.Show(p); e != api.OK && lines != "" {
			t.Fatalf("%v: shown %q %d", p, lines, e)
		}
		if l, n, e := run.All(p, 30); prog.Check(p) != api.OK && (len(l) != 0 || n != 0 || e != prog.Check(p)) {
			t.Fatalf("%v: ran %v %d %d", p, l, n, e)
		}
	}
}

func TestP1States(t *testing.T) {
	r := rand.New(rand.NewSource(8))
	for i := range 6000 {
		p, s := spoiltState(r)
		if i%2 == 0 {
			s = wildState(r)
		}
		if l, e := chain.Line(p, s); e != api.OK && len(l) != 0 {
			t.Fatalf("%v at %v: line %v %d", p, s, l, e)
		}
		for _, n := range []int{far()[r.Intn(len(far()))], r.Intn(4)} {
			if k, e := chain.Kind(p, s, n); e != api.OK && k != 0 {
				t.Fatalf("%v at %v: kind %d %d", p, s, k, e)
			}
			toldOf(p, s, n)
		}
		if next, e := step.Do(p, s); e != api.OK && !isNoState(next) {
			t.Fatalf("%v at %v: step %v %d", p, s, next, e)
		}
		if b, e := save.Write(p, s); e != api.OK && b != "" {
			t.Fatalf("%v at %v: written %q %d", p, s, b, e)
		}
		b := turnedBytes(r, bytesOf(s))
		if back, e := save.Read(p, b); e != api.OK && !isNoState(back) {
			t.Fatalf("%v, %q: read %v %d", p, b, back, e)
		}
		if end, n, e := run.Run(p, s, 30); state.Check(p, s) != api.OK && (!isNoState(end) || n != 0 || e != state.Check(p, s)) {
			t.Fatalf("%v at %v: ran %v %d %d", p, s, end, n, e)
		}
	}
}

// P1: bytes that are anything are read, or not, and no more.
func TestP1Bytes(t *testing.T) {
	r := rand.New(rand.NewSource(24))
	for range 20000 {
		b := make([]byte, r.Intn(60))
		top := 1 + r.Intn(256)
		for i := range b {
			b[i] = byte(r.Intn(top))
		}
		p := spoilt(r)
		if s, e := save.Read(p, string(b)); e != api.OK && !isNoState(s) {
			t.Fatalf("%v, %q: %v %d", p, b, s, e)
		}
	}
}

func TestP1Exprs(t *testing.T) {
	r := rand.New(rand.NewSource(25))
	for i := range 20000 {
		e, vals := spoiltExpr(r)
		if i%2 == 0 {
			e = make([]api.Node, r.Intn(12))
			for k := range e {
				e[k] = node(r.Intn(9), far()[r.Intn(len(far()))])
			}
		}
		locals := far()[r.Intn(len(far()))]
		expr.Check(e, locals)
		if v, wrong := expr.Value(e, vals); wrong != api.OK && v != 0 {
			t.Fatalf("%v with %v: %d %d", e, vals, v, wrong)
		}
		if f, wrong := forge.Func(e, locals); wrong != api.OK && !isNoFunc(f) {
			t.Fatalf("%v with %d locals: %v %d", e, locals, f, wrong)
		}
		if p, wrong := forge.Prog(e, vals); wrong != api.OK && len(p) != 0 {
			t.Fatalf("%v with %v: %v %d", e, vals, p, wrong)
		}
	}
}

// P1: texts that are anything are read and played, or not, and no more.
func TestP1Texts(t *testing.T) {
	r := rand.New(rand.NewSource(42))
	for range 10000 {
		s, script := spoiltTexts(r)
		p, e := text.Read(s)
		if e != api.OK && len(p) != 0 {
			t.Fatalf("%q: read %v %d", s, p, e)
		}
		given, g := desk.Play(s, script)
		if g != api.OK && given != "" || e != api.OK && g != e {
			t.Fatalf("%q, %q: read %d, given %q %d", s, script, e, given, g)
		}
	}
}

// P2: what is handed in is only read, the spare room too.
func TestP2OnlyRead(t *testing.T) {
	r := rand.New(rand.NewSource(6))
	for range 1000 {
		p := roomy(spoilt(r))
		before := wholly(p)
		for f := -1; f <= len(p); f++ {
			told(p, f)
		}
		if !samePrograms(wholly(p), before) {
			t.Fatalf("%v became %v", before, wholly(p))
		}
	}
}

func TestP2OnlyReadStates(t *testing.T) {
	r := rand.New(rand.NewSource(9))
	for range 1000 {
		p, s := spoiltState(r)
		p, s = roomy(p), roomyState(s)
		before, was := wholly(p), fmt.Sprint(whollyState(s))
		for n := -1; n <= len(s.Fibers); n++ {
			toldOf(p, s, n)
		}
		if !samePrograms(wholly(p), before) {
			t.Fatalf("%v became %v", before, wholly(p))
		}
		if now := fmt.Sprint(whollyState(s)); now != was {
			t.Fatalf("%s became %s", was, now)
		}
	}
}

func TestP2OnlyReadExprs(t *testing.T) {
	r := rand.New(rand.NewSource(26))
	for range 3000 {
		e, vals := roomyExpr(spoiltExpr(r))
		before := fmt.Sprint(e[:cap(e)], vals[:cap(vals)])
		toldOfExpr(e, vals)
		if now := fmt.Sprint(e[:cap(e)], vals[:cap(vals)]); now != before {
			t.Fatalf("%s became %s", before, now)
		}
	}
}

// P2: an answer does not change when the program does, and not when a later answer is given.
func TestP2AnswersStay(t *testing.T) {
	p := count()
	var heights [][]int
	var calls [][]bool
	var before []string
	for f := range p {
		h, _ := flow.Heights(p, f)
		s := fmt.Sprint(h) // ahead of Calls, which asks for heights too
		c, _ := prog.Calls(p, f)
		before = append(before, s+fmt.Sprint(c))
		heights, calls = append(heights, h), append(calls, c)
	}
	for f := range p {
		clear(p[f].Code)
	}
	clear(p)
	for f := range before {
		if s := fmt.Sprint(heights[f]) + fmt.Sprint(calls[f]); s != before[f] {
			t.Errorf("function %d: %s became %s", f, before[f], s)
		}
	}
}

// P2: an answer is the caller's, who may change it, with its spare room; nothing else changes by that.
func TestP2AnswersAreTheCallers(t *testing.T) {
	p := count()
	before := told(p, 1)
	for range 2 {
		heights, _ := flow.Heights(p, 1)
		calls, _ := prog.Calls(p, 1)
		clear(heights[:cap(heights)])
		clear(calls[:cap(calls)])
	}
	if s := told(p, 1); s != before || !samePrograms(p, count()) {
		t.Errorf("%s became %s, the program %v", before, s, p)
	}
}

// listsOf are all lists of numbers and of ops that the calls answer of p and s, with their spare room.
func listsOf(p []api.Func, s api.State) ([][]int, [][]api.Op) {
	var codes [][]api.Op
	all, _ := trim.All(p)
	for f, g := range all {
		same, _ := trim.Func(p, f)
		codes = append(codes, g.Code[:cap(g.Code)], same.Code[:cap(same.Code)])
	}
	var lists [][]int
	for range 2 {
		begin, _ := state.Begin(p)
		line, _ := chain.Line(p, s)
		x := begin.Fibers[0].Frames[0]
		lists = append(lists, begin.Out[:cap(begin.Out)], x.Locals[:cap(x.Locals)], x.Stack[:cap(x.Stack)], line[:cap(line)])
	}
	return lists, codes
}

// P2: no two lists of answers share memory, and none does with what was handed in.
func TestP2NothingIsShared(t *testing.T) {
	p, s := roomy(count()), roomyState(four())
	before, was := wholly(p), fmt.Sprint(whollyState(s))
	lists, codes := listsOf(p, s)
	for i := range lists {
		others := fmt.Sprint(lists[:i], lists[i+1:])
		for k := range lists[i] {
			lists[i][k] -= 55
		}
		if fmt.Sprint(lists[:i], lists[i+1:]) != others {
			t.Errorf("list %d shares memory with another one", i)
		}
	}
	for i := range codes {
		others := fmt.Sprint(codes[:i], codes[i+1:])
		for k := range codes[i] {
			codes[i][k].A -= 55
		}
		if fmt.Sprint(codes[:i], codes[i+1:]) != others {
			t.Errorf("code %d shares memory with another one", i)
		}
	}
	if !samePrograms(wholly(p), before) || fmt.Sprint(whollyState(s)) != was {
		t.Errorf("an answer shares memory with what was handed in: %v, %v", wholly(p), whollyState(s))
	}
	// What was handed in may change too.
	lists, codes = listsOf(p, s)
	answers := fmt.Sprint(lists, codes)
	for f := range p {
		clear(p[f].Code[:cap(p[f].Code)])
	}
	clear(p)
	for _, b := range s.Fibers {
		clear(b.Frames)
	}
	clear(s.Fibers)
	if now := fmt.Sprint(lists, codes); now != answers {
		t.Errorf("%s became %s", answers, now)
	}
}

// placesOf are the addresses of all that lies in the lists of s, their spare room too.
func placesOf(s api.State) []any {
	var l []any
	numbers := func(list []int) {
		for k := range list[:cap(list)] {
			l = append(l, &list[:cap(list)][k])
		}
	}
	numbers(s.Out)
	for n := range s.Fibers[:cap(s.Fibers)] {
		l = append(l, &s.Fibers[:cap(s.Fibers)][n])
	}
	for _, b := range s.Fibers {
		for k := range b.Frames[:cap(b.Frames)] {
			l = append(l, &b.Frames[:cap(b.Frames)][k])
		}
		for _, x := range b.Frames {
			numbers(x.Locals)
			numbers(x.Stack)
		}
	}
	return l
}

// P2: a state that comes out is new memory, all of it, whether steps were done or not.
func TestP2StatesAreNew(t *testing.T) {
	r := rand.New(rand.NewSource(19))
	for range 2000 {
		p := built(r)
		s := roomyState(rightState(r, p))
		next, _ := step.Do(p, s)
		answers := []api.State{s, next}
		for range 2 {
			back, _ := save.Read(p, bytesOf(s))
			answers = append(answers, back)
		}
		for _, fuel := range []int{0, 0, 1, 2, 30, 30} {
			end, _, _ := run.Run(p, s, fuel)
			out, _, _ := run.All(p, fuel)
			answers = append(answers, end, api.State{Out: out})
		}
		lies := map[any]int{}
		for i, one := range answers {
			for _, place := range placesOf(one) {
				if k, ok := lies[place]; ok {
					t.Fatalf("%v at %s: answers %d and %d share memory", p, shown(s), k, i)
				}
				lies[place] = i
			}
		}
	}
}

// placesOfProgram are the addresses of all that lies in the lists of p, their spare room too.
func placesOfProgram(p []api.Func) []any {
	var l []any
	for f := range p[:cap(p)] {
		l = append(l, &p[:cap(p)][f])
	}
	for _, f := range p {
		for at := range f.Code[:cap(f.Code)] {
			l = append(l, &f.Code[:cap(f.Code)][at])
		}
	}
	return l
}

// P2: a program that comes out is new memory, all of it.
func TestP2ProgramsAreNew(t *testing.T) {
	r := rand.New(rand.NewSource(43))
	for range 1000 {
		vals := smallVals(r, r.Intn(5))
		e := drawnTree(r, 9, len(vals)).list()
		s := textOf(built(r))
		lies := map[any]bool{}
		for range 2 {
			f, _ := forge.Func(e, len(vals))
			p, _ := forge.Prog(e, vals)
			q, _ := text.Read(s)
			for _, place := range slices.Concat(placesOfProgram([]api.Func{f}), placesOfProgram(p), placesOfProgram(q)) {
				if lies[place] {
					t.Fatalf("%v with %v, %q: two lists share memory", e, vals, s)
				}
				lies[place] = true
			}
		}
	}
}

// P2: an empty list may be nil or not.
func TestP2Empty(t *testing.T) {
	for f := -1; f < 2; f++ {
		if a, b := told(nil, f), told([]api.Func{}, f); a != b {
			t.Errorf("no program: %s, %s", a, b)
		}
		p, q := []api.Func{{Code: nil}}, []api.Func{{Code: []api.Op{}}}
		if a, b := told(p, f), told(q, f); a != b {
			t.Errorf("no ops: %s, %s", a, b)
		}
	}
}

func TestP2EmptyStates(t *testing.T) {
	no := []int{}
	rows := [][2]api.State{
		{{}, {Fibers: []api.Fiber{}, Out: no}},
		{begun(many(1)), {Fibers: []api.Fiber{fiber(-1, frame(0, 0, no, no))}, Out: no}},
		{{Fibers: []api.Fiber{fiber(-1)}, Now: -1}, {Fibers: []api.Fiber{{Frames: []api.Frame{}, Caller: -1}}, Now: -1, Out: no}},
	}
	for _, row := range rows {
		for n := -1; n < 2; n++ {
			if a, b := toldOf(many(1), row[0], n), toldOf(many(1), row[1], n); a != b {
				t.Errorf("%v: %s, %s", row[0], a, b)
			}
		}
	}
}

func TestP2EmptyExprs(t *testing.T) {
	for _, e := range [][]api.Node{num(5), nine()} {
		if a, b := toldOfExpr(e, nil), toldOfExpr(e, []int{}); a != b {
			t.Errorf("no locals: %s, %s", a, b)
		}
	}
	if a, b := toldOfExpr(nil, []int{1}), toldOfExpr([]api.Node{}, []int{1}); a != b {
		t.Errorf("no nodes: %s, %s", a, b)
	}
}

// P3: what is answered hangs neither on what was asked before, nor on where it lies and what room there is behind it.
func TestP3(t *testing.T) {
	r := rand.New(rand.NewSource(7))
	var programs [][]api.Func
	var first []string
	for range 300 {
		p := spoilt(r)
		programs = append(programs, p)
		first = append(first, told(p, 1))
	}
	for _, i := range r.Perm(len(programs)) {
		if s := told(roomy(clone(programs[i])), 1); s != first[i] {
			t.Fatalf("%v: first %s, then %s", programs[i], first[i], s)
		}
	}
}

func TestP3States(t *testing.T) {
	r := rand.New(rand.NewSource(10))
	var programs [][]api.Func
	var states []api.State
	var first []string
	for range 300 {
		p, s := spoiltState(r)
		programs, states = append(programs, p), append(states, s)
		first = append(first, toldOf(p, s, 1))
	}
	for _, i := range r.Perm(len(programs)) {
		if s := toldOf(roomy(programs[i]), roomyState(states[i]), 1); s != first[i] {
			t.Fatalf("%v at %v: first %s, then %s", programs[i], states[i], first[i], s)
		}
	}
}

func TestP3Exprs(t *testing.T) {
	r := rand.New(rand.NewSource(27))
	var lists [][]api.Node
	var locals [][]int
	var first []string
	for range 1000 {
		e, vals := spoiltExpr(r)
		lists, locals = append(lists, e), append(locals, vals)
		first = append(first, toldOfExpr(e, vals))
	}
	for _, i := range r.Perm(len(lists)) {
		if s := toldOfExpr(roomyExpr(lists[i], locals[i])); s != first[i] {
			t.Fatalf("%v with %v: first %s, then %s", lists[i], locals[i], first[i], s)
		}
	}
}

func TestP3Texts(t *testing.T) {
	r := rand.New(rand.NewSource(44))
	var programs, scripts, first []string
	for range 1000 {
		s, script := spoiltTexts(r)
		programs, scripts = append(programs, s), append(scripts, script)
		first = append(first, toldOfTexts(s, script))
	}
	for _, i := range r.Perm(len(programs)) {
		s, script := strings.Clone(programs[i]), (scripts[i] + "more")[:len(scripts[i])]
		if now := toldOfTexts(s, script); now != first[i] {
			t.Fatalf("%q, %q: first %s, then %s", s, script, first[i], now)
		}
	}
}
