package promises

import (
	"fmt"
	"math/rand"
	"regexp"
	"slices"
	"strconv"
	"strings"
	"testing"

	"glebe/api"
	"glebe/desk"
)

// plays tells a fault, unless the script gives that of the program p; / stands for a line feed in both.
func plays(t *testing.T, name string, p []api.Func, script, want string) {
	t.Helper()
	script, want = strings.ReplaceAll(script, "/", "\n"), strings.ReplaceAll(want, "/", "\n")
	if got, e := desk.Play(textOf(p), script); got != want || e != api.OK {
		t.Errorf("%s, %.200q: %.200q %d, not %.200q", name, script, got, e, want)
	}
}

// refusesPlay tells a fault, unless nothing is played for the reason want.
func refusesPlay(t *testing.T, name, s, script string, want api.Errno) {
	t.Helper()
	if got, e := desk.Play(s, script); got != "" || e != want {
		t.Errorf("%s, %.60q, %.60q: %.60q %d, not %d", name, s, script, got, e, want)
	}
}

func TestM1Example(t *testing.T) {
	plays(t, "the example", count(), "step 6/step 500/kinds/", "6/22/0 0/")
	plays(t, "what there is on the way", count(),
		"kinds/line/out/step 6/kinds/line/out/step 22/kinds/line/out/step 1/",
		"1/0/-/6/2 1/1 0/-/22/0 0/-/7 8 99/0/")
	plays(t, "what does not change", count(),
		"heights 0/heights 1/heights 2/trim/step 500/heights 1/trim/",
		"0 1 0 1 2 1 0 1 2 1 0 1 2 1/0 1 1 0 1 2 1 1 0 1 -1 -1/0 1 2 1/28/28/0 1 1 0 1 2 1 1 0 1 -1 -1/28/")
}

func TestM1Step(t *testing.T) {
	for n := range 501 {
		plays(t, "one go", count(), fmt.Sprintf("step %d/step 500/step 500/out/", n), fmt.Sprintf("%d/%d/0/7 8 99/", min(n, 28), 28-min(n, 28)))
	}
	plays(t, "step by step", count(), strings.Repeat("step 1/", 39)+"out/", strings.Repeat("1/", 28)+strings.Repeat("0/", 11)+"7 8 99/")
	plays(t, "it never ends", one(o(api.Jump, 0)), "step 500/step 500/step 0/step 1/kinds/", "500/500/0/1/1/")
	for _, n := range []string{"501", "502", "1000", "99999", "999999"} {
		plays(t, "too much fuel changes nothing", count(), "step 6/step "+n+"/line/step 500/step "+n+"/out/", "6/error 3/1 0/22/error 3/7 8 99/")
	}
}

// M1: what was done ahead of an error stays done.
func TestM1StepErrors(t *testing.T) {
	push, put := o(api.Push, 3), o(api.Put, 0)
	threes := strings.TrimSpace(strings.Repeat("3 ", 30))
	rows := []struct {
		name         string
		p            []api.Func
		script, want string
	}{
		{"nobody waits for it", one(push, o(api.Yield, 0), o(api.Return, 0)), "step 5/step 5/kinds/line/step 0/", "1 error 7/0 error 7/1/0/0/"},
		{"no such fiber", one(push, put, push, push, o(api.Resume, 0), o(api.Return, 0)), "step 9/out/step 1/out/", "4 error 5/3/0 error 5/3/"},
		{"main by itself", one(o(api.Push, 0), push, o(api.Resume, 0), o(api.Return, 0)), "step 2/step 1/step 2/", "2/0 error 6/0 error 6/"},
		{"too many put out", one(push, put, o(api.Jump, 0)), "step 90/step 500/out/step 1/", "90/1 error 2/" + threes + "/0 error 2/"},
		{"too many frames", one(o(api.Call, 0), o(api.Return, 0)), "step 5/step 9/kinds/", "5/0 error 2/1/"},
		{"too many fibers", append(one(o(api.Make, 1), o(api.Pop, 0), o(api.Jump, 0)), api.Func{Args: 1, Locals: 1, Code: gives()}), "step 500/kinds/", "12 error 2/1 3 3 3 3/"},
		{"again, and the same error", one(push, o(api.Yield, 0), o(api.Return, 0)), "step 5/again/step 5/step 5/", "1 error 7/ok/1 error 7/0 error 7/"},
	}
	for _, row := range rows {
		plays(t, row.name, row.p, row.script, row.want)
	}
}

// M1: values below 0, and all others, down to the last digit.
func TestM1Out(t *testing.T) {
	put, sub := o(api.Put, 0), o(api.Sub, 0)
	low := []api.Op{o(api.Push, 512)} // 2 to the 9th, 7 times
	for range 6 {
		low = append(low, o(api.Push, 512), o(api.Mul, 0))
	}
	code := []api.Op{o(api.Push, 0), o(api.Push, 7), sub, put, o(api.Push, 0), put}
	plays(t, "low values", one(slices.Concat(code, low, []api.Op{o(api.Return, 0)})...),
		"out/step 4/out/step 2/out/step 500/out/", "-/4/-7/2/-7 0/14/-7 0 -9223372036854775808/")
	plays(t, "the highest one", one(slices.Concat(low, []api.Op{o(api.Push, 1), sub, o(api.Return, 0)})...),
		"step 500/out/", "16/9223372036854775807/")
	all := one(o(api.Push, 999), put, o(api.Jump, 0))
	for n := range 30 {
		want := strings.TrimSpace(strings.Repeat("999 ", n))
		if n == 0 {
			want = "-"
		}
		plays(t, "so many", all, fmt.Sprintf("step %d/out/", 3*n), fmt.Sprintf("%d/%s/", 3*n, want))
	}
}

func TestM1LineAndKinds(t *testing.T) {
	// Main makes three fibers, the first of which resumes the second one, that the third one; this one yields.
	inner := func(next int) []api.Op {
		return []api.Op{o(api.Push, next), o(api.Load, 0), o(api.Resume, 0), o(api.Return, 0)}
	}
	p := []api.Func{
		{Code: []api.Op{o(api.Make, 1), o(api.Pop, 0), o(api.Make, 2), o(api.Pop, 0), o(api.Make, 3), o(api.Pop, 0), o(api.Push, 1), o(api.Push, 5), o(api.Resume, 0), o(api.Return, 0)}},
		{Args: 1, Locals: 1, Code: inner(2)},
		{Args: 1, Locals: 1, Code: inner(3)},
		{Args: 1, Locals: 1, Code: []api.Op{o(api.Load, 0), o(api.Yield, 0), o(api.Return, 0)}},
	}
	plays(t, "a long line", p,
		"step 6/kinds/line/step 3/kinds/line/step 3/kinds/line/step 3/kinds/line/step 2/kinds/line/step 1/kinds/line/step 500/kinds/line/out/",
		"6/1 3 3 3/0/3/2 1 3 3/1 0/3/2 2 1 3/2 1 0/3/2 2 2 1/3 2 1 0/2/2 2 1 4/2 1 0/1/2 1 0 4/1 0/2/0 0 0 4/-/5/")
}

func TestM1Heights(t *testing.T) {
	for f, heights := range []string{"0 1 0 1 2 1 0 1 2 1 0 1 2 1", "0 1 1 0 1 2 1 1 0 1 -1 -1", "0 1 2 1"} {
		plays(t, "of one", count(), fmt.Sprintf("heights %d/", f), heights+"/")
	}
	for _, f := range []string{"3", "4", "5", "10", "24", "999", "100000", "999999"} {
		plays(t, "no such function", count(), "heights "+f+"/", "error 5/")
	}
	plays(t, "not only there", count(), "heights 3/step 28/heights 4/out/", "error 5/28/error 5/7 8 99/")
}

func TestM1Trim(t *testing.T) {
	plays(t, "the example", count(), "trim/step 6/trim/out/line/step 22/trim/", "28/6/28/-/1 0/22/28/")
	plays(t, "nothing to trim", many(5), "trim/", "10/")
	p := many(5)
	for f := range p {
		for range f {
			p[f].Code = append(p[f].Code, o(api.Push, 1))
		}
	}
	plays(t, "some of each but the first", p, "trim/trim/", "10/10/")
	plays(t, "all but one", one(o(api.Jump, 0), o(api.Jump, 0), o(api.Return, 0)), "trim/heights 0/", "1/0 -1 -1/")
}

func TestM1Again(t *testing.T) {
	plays(t, "the example", count(), "again/step 6/again/kinds/line/out/step 500/out/again/out/kinds/again/step 6/line/", "ok/6/ok/1/0/-/28/7 8 99/ok/-/1/ok/6/1 0/")
	for n := range 30 {
		plays(t, "from each step", count(), fmt.Sprintf("step %d/again/step 500/out/", n), fmt.Sprintf("%d/ok/28/7 8 99/", min(n, 28)))
	}
}

// M1: whatever is none of the lines gives ErrForm, and nothing else.
func TestM1NoLine(t *testing.T) {
	wrong := "| |x|error|ok|-|0|6|step|step |step  1| step 1|step 1 |step 1 1|step -1|step +1|step -0|step 00|step 01|step 000001|step 0000001|step 1000000|step 1000001|step 18446744073709551617|step x|step 1x|step x1|step 1.|step 0x1|step 1_0|step 1e1|step \u0661|step\t1|step 1\r|step1|Step 1|STEP 1|steps 1|ste 1|step out|" +
		"out |out 1| out|Out|outs|ou|out\r|out out|out x|out -|line |line 0|line x|lines|lin|kinds |kinds 0|kind|kind 0|kinds kinds|heights|heights |heights -1|heights +1|heights 00|heights 01|heights 0 |heights 0 0|heights  0|heights x|heights 1000000|heights 18446744073709551616|height 0|heights0|" +
		"trim |trim 0|trims|Trim|again |again 0|again again|agai|\x00|out\x00|\xff|\xef\xbb\xbfout|out;|out,line|play|push 1|func 0 1|return"
	for _, line := range strings.Split(wrong, "|") {
		plays(t, "no line", count(), line+"/", "error 1/")
		plays(t, "it changes nothing", count(), "step 6/"+line+"/line/"+line+"/step 500/"+line+"/out/", "6/error 1/1 0/error 1/22/error 1/7 8 99/")
	}
	plays(t, "a long line", count(), strings.Repeat("x", 8191)+"/", "error 1/")
	plays(t, "a number of very many digits", count(), "step "+strings.Repeat("1", 8186)+"/", "error 1/")
	plays(t, "very many words", count(), strings.Repeat(" ", 8191)+"/", "error 1/")
}

// M1: text.Read's errors first, whatever the script is.
func TestM1ProgramFirst(t *testing.T) {
	long := strings.Repeat("x", 8193)
	for _, script := range []string{"", "out\n", "out", "x", long, strings.Repeat("out\n", 41)} {
		refusesPlay(t, "no program", "", script, api.ErrForm)
		refusesPlay(t, "no program", "x", script, api.ErrForm)
		refusesPlay(t, "no last line feed", strings.TrimSuffix(countText, "\n"), script, api.ErrForm)
		refusesPlay(t, "not right", "func 0 0\npush 1000\nreturn\n", script, api.ErrForm)
		refusesPlay(t, "too long", long, script, api.ErrMany)
		refusesPlay(t, "good, and too long", countText+long, script, api.ErrMany)
	}
}

func TestM1Script(t *testing.T) {
	plays(t, "empty", count(), "", "")
	plays(t, "an empty line", count(), "/", "error 1/")
	plays(t, "40 lines", count(), strings.Repeat("out/", 40), strings.Repeat("-/", 40))
	plays(t, "40 empty lines", count(), strings.Repeat("/", 40), strings.Repeat("error 1/", 40))
	plays(t, "MaxBytes", count(), "out/"+strings.Repeat("x", 8187)+"/", "-/error 1/")
	rows := []struct {
		name, script string
		want         api.Errno
	}{
		{"one line more", strings.Repeat("out\n", 41), api.ErrMany},
		{"one empty line more", strings.Repeat("\n", 41), api.ErrMany},
		{"MaxBytes empty lines", strings.Repeat("\n", 8192), api.ErrMany},
		{"one byte more", strings.Repeat("x", 8192) + "\n", api.ErrMany},
		{"one byte more, at the end", strings.Repeat("x", 8191) + "\n\n", api.ErrMany},
		{"very many", strings.Repeat("out\n", 1<<16), api.ErrMany},
		{"too many bytes, and no line feed", strings.Repeat("x", 8193), api.ErrMany},
		{"too many lines, and no last line feed", strings.Repeat("out\n", 41) + "out", api.ErrMany},
		{"no line feed", "out", api.ErrForm},
		{"no last line feed", "out\nout", api.ErrForm},
		{"only a carriage return", "out\r", api.ErrForm},
		{"a blank at the end", "out\n ", api.ErrForm},
		{"MaxBytes, no line feed", strings.Repeat("x", 8192), api.ErrForm},
		{"40 lines, and something behind", strings.Repeat("out\n", 40) + "out", api.ErrForm},
	}
	for _, row := range rows {
		refusesPlay(t, row.name, countText, row.script, row.want)
	}
}

// numberLine is a line with a number.
var numberLine = regexp.MustCompile(`\A(step|heights) (0|[1-9][0-9]{0,5})\z`)

// player is chapter 13 said another way.
type player struct {
	p []api.Func
	s api.State
}

func listed(l []int) string {
	if len(l) == 0 {
		return "-"
	}
	return strings.Trim(fmt.Sprint(l), "[]")
}

func (d *player) line(line string) string {
	if m := numberLine.FindStringSubmatch(line); m != nil {
		n, _ := strconv.Atoi(m[2])
		if m[1] == "step" {
			return d.step(n)
		}
		if n >= len(d.p) {
			return "error 5"
		}
		heights, _ := wanted(d.p, n)
		return listed(heights)
	}
	switch line {
	case "out":
		return listed(d.s.Out)
	case "line":
		l, _ := lineOf(d.s)
		return listed(l)
	case "kinds":
		var l []int
		for n := range d.s.Fibers {
			l = append(l, kindOf(d.p, d.s, n))
		}
		return listed(l)
	case "trim":
		ops := 0
		for f := range d.p {
			seen, _ := spots(d.p, f)
			ops += len(seen)
		}
		return strconv.Itoa(ops)
	case "again":
		d.s = begun(d.p)
		return "ok"
	}
	return "error 1"
}

func (d *player) step(fuel int) string {
	if fuel > 500 {
		return "error 3"
	}
	l, e := ranOn(d.p, d.s, fuel)
	d.s = l[len(l)-1]
	if e != api.OK {
		return fmt.Sprintf("%d error %d", len(l)-1, e)
	}
	return strconv.Itoa(len(l) - 1)
}

// drawnScript is a script, mostly of right lines.
func drawnScript(r *rand.Rand) []string {
	var l []string
	for range r.Intn(20) {
		line := []string{"out", "line", "kinds", "trim", "again", "step 500", "step " + fmt.Sprint(r.Intn(9)), "step " + fmt.Sprint(r.Intn(40)), "heights " + fmt.Sprint(r.Intn(6)), "step " + fmt.Sprint(r.Intn(1<<21))}[r.Intn(10)]
		if at := r.Intn(len(line)); r.Intn(10) == 0 {
			line = line[:at] + string(" 0x-"[r.Intn(4)]) + line[at+r.Intn(2):]
		}
		l = append(l, line)
	}
	return l
}

// M1, M2: all lines that are given, with a line feed behind each, said another way.
func TestM2Drawn(t *testing.T) {
	r := rand.New(rand.NewSource(32))
	seen := map[string]int{}
	for range 4000 {
		p := built(r)
		d := &player{p, begun(p)}
		script, want := "", ""
		for _, line := range drawnScript(r) {
			script += line + "\n"
			answer := d.line(line)
			want += answer + "\n"
			if at := strings.Index(answer, "error"); at > 0 {
				seen["steps, then "+answer[at:]]++
			} else if at == 0 {
				seen[answer]++
			}
		}
		if got, e := desk.Play(textOf(p), script); got != want || e != api.OK {
			t.Fatalf("%v, %q: %q %d, not %q", p, script, got, e, want)
		}
	}
	for _, answer := range []string{"error 1", "error 3", "error 5", "steps, then error 2", "steps, then error 5", "steps, then error 6", "steps, then error 7"} {
		if seen[answer] < 20 {
			t.Errorf("%q was given only %d times: %v", answer, seen[answer], seen)
		}
	}
}
