package promises

import (
	"fmt"
	"math/rand"
	"testing"

	"glebe/api"
	"glebe/flow"
	"glebe/op"
	"glebe/prog"
)

// told is all that the calls answer of p and f.
func told(p []api.Func, f int) string {
	heights, e := flow.Heights(p, f)
	calls, g := prog.Calls(p, f)
	s := fmt.Sprint(op.Check(p, f), prog.Check(p), len(heights), heights, e, len(calls), calls, g)
	for _, x := range []api.Op{o(api.Call, f), o(f, 0), o(api.Add, f)} {
		takes, leaves, e := op.Effect(p, x)
		s += fmt.Sprint(";", takes, leaves, e)
	}
	return s
}

// wild is a program of numbers that are anything.
func wild(r *rand.Rand) []api.Func {
	some := func() int { return far()[r.Intn(len(far()))] }
	p := make([]api.Func, r.Intn(8))
	for f := range p {
		p[f] = api.Func{Args: some(), Locals: some(), Code: make([]api.Op, r.Intn(30))}
		for at := range p[f].Code {
			p[f].Code[at] = o(some(), some())
		}
	}
	return p
}

// spoilt is a right or drawn program with some numbers that are anything.
func spoilt(r *rand.Rand) []api.Func {
	some := func() int { return far()[r.Intn(len(far()))] }
	p := count()
	if r.Intn(2) == 0 {
		p = drawn(r)
	}
	for range r.Intn(3) {
		f := r.Intn(len(p))
		switch r.Intn(4) {
		case 0:
			p[f].Args = some()
		case 1:
			p[f].Locals = some()
		case 2:
			p[f].Code[r.Intn(len(p[f].Code))].A = some()
		case 3:
			p[f].Code[r.Intn(len(p[f].Code))].Kind = some()
		}
	}
	return p
}

// P1: nothing panics, and with an error all else is its zero value.
func TestP1(t *testing.T) {
	r := rand.New(rand.NewSource(5))
	for i := range 4000 {
		p := wild(r)
		if i%2 == 0 {
			p = spoilt(r)
		}
		for _, f := range []int{far()[r.Intn(len(far()))], r.Intn(4)} {
			if l, e := flow.Heights(p, f); e != api.OK && len(l) != 0 {
				t.Fatalf("%v, function %d: heights %v %d", p, f, l, e)
			}
			if l, e := prog.Calls(p, f); e != api.OK && len(l) != 0 {
				t.Fatalf("%v, function %d: calls %v %d", p, f, l, e)
			}
			x := o(r.Intn(20)-1, f)
			if takes, leaves, e := op.Effect(p, x); e != api.OK && (takes != 0 || leaves != 0) {
				t.Fatalf("%v, %v: effect %d %d %d", p, x, takes, leaves, e)
			}
			told(p, f)
		}
	}
}

// P2: what is handed in is only read, the spare room too.
func TestP2OnlyRead(t *testing.T) {
	r := rand.New(rand.NewSource(6))
	for range 1000 {
		p := roomy(spoilt(r))
		before := wholly(p)
		for f := -1; f <= len(p); f++ {
			told(p, f)
		}
		if !samePrograms(wholly(p), before) {
			t.Fatalf("%v became %v", before, wholly(p))
		}
	}
}

// P2: an answer does not change when the program does, and not when a later answer is given.
func TestP2AnswersStay(t *testing.T) {
	p := count()
	var heights [][]int
	var calls [][]bool
	var before []string
	for f := range p {
		h, _ := flow.Heights(p, f)
		s := fmt.Sprint(h) // ahead of Calls, which asks for heights too
		c, _ := prog.Calls(p, f)
		before = append(before, s+fmt.Sprint(c))
		heights, calls = append(heights, h), append(calls, c)
	}
	for f := range p {
		clear(p[f].Code)
	}
	clear(p)
	for f := range before {
		if s := fmt.Sprint(heights[f]) + fmt.Sprint(calls[f]); s != before[f] {
			t.Errorf("function %d: %s became %s", f, before[f], s)
		}
	}
}

// P2: an answer is the caller's, who may change it, with its spare room; nothing else changes by that.
func TestP2AnswersAreTheCallers(t *testing.T) {
	p := count()
	before := told(p, 1)
	for range 2 {
		heights, _ := flow.Heights(p, 1)
		calls, _ := prog.Calls(p, 1)
		clear(heights[:cap(heights)])
		clear(calls[:cap(calls)])
	}
	if s := told(p, 1); s != before || !samePrograms(p, count()) {
		t.Errorf("%s became %s, the program %v", before, s, p)
	}
}

// P2: an empty list may be nil or not.
func TestP2Empty(t *testing.T) {
	for f := -1; f < 2; f++ {
		if a, b := told(nil, f), told([]api.Func{}, f); a != b {
			t.Errorf("no program: %s, %s", a, b)
		}
		p, q := []api.Func{{Code: nil}}, []api.Func{{Code: []api.Op{}}}
		if a, b := told(p, f), told(q, f); a != b {
			t.Errorf("no ops: %s, %s", a, b)
		}
	}
}

// P3: what is answered hangs neither on what was asked before, nor on where it lies and what room there is behind it.
func TestP3(t *testing.T) {
	r := rand.New(rand.NewSource(7))
	var programs [][]api.Func
	var first []string
	for range 300 {
		p := spoilt(r)
		programs = append(programs, p)
		first = append(first, told(p, 1))
	}
	for _, i := range r.Perm(len(programs)) {
		if s := told(roomy(clone(programs[i])), 1); s != first[i] {
			t.Fatalf("%v: first %s, then %s", programs[i], first[i], s)
		}
	}
}
