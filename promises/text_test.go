package promises

import (
	"fmt"
	"math/rand"
	"regexp"
	"strings"
	"testing"

	"glebe/api"
	"glebe/forge"
	"glebe/prog"
	"glebe/text"
)

// names are the names of the kinds of ops, in their order; behind those with a blank stands A.
const names = "push |pop|load |store |add|sub|mul|less|same|jump |zero |call |return|make |resume|yield|put"

// textOf is what L1 tells of Show, of any program whose kinds are kinds.
func textOf(p []api.Func) string {
	l := strings.Split(names, "|")
	var b strings.Builder
	for _, f := range p {
		fmt.Fprintf(&b, "func %d %d\n", f.Args, f.Locals)
		for _, x := range f.Code {
			b.WriteString(l[x.Kind])
			if strings.HasSuffix(l[x.Kind], " ") {
				fmt.Fprint(&b, x.A)
			}
			b.WriteString("\n")
		}
	}
	return b.String()
}

// isLines tells whether a text looks like a program's at all.
var isLines = regexp.MustCompile(`\A(func \d{1,9} \d{1,9}\n([a-z]+( \d{1,9})?\n)*)+\z`)

// programOf is what L1 tells of Read, said another way; false, if no right program is shown so.
func programOf(s string) ([]api.Func, bool) {
	if !isLines.MatchString(s) {
		return nil, false
	}
	l := strings.Split(names, "|")
	var p []api.Func
	for _, line := range strings.Split(s, "\n") {
		var f api.Func
		if n, _ := fmt.Sscanf(line, "func %d %d", &f.Args, &f.Locals); n == 2 {
			p = append(p, f)
			continue
		}
		for kind, name := range l {
			x := o(kind, 0)
			word, number, _ := strings.Cut(line, " ")
			if word == strings.TrimSuffix(name, " ") {
				fmt.Sscanf(number, "%d", &x.A)
				p[len(p)-1].Code = append(p[len(p)-1].Code, x)
			}
		}
	}
	// What was read too kindly is not told so again.
	return p, prog.Check(p) == api.OK && textOf(p) == s
}

// holdText holds Read against programOf, and tells whether there was a program.
func holdText(t *testing.T, s string) bool {
	t.Helper()
	want, ok := programOf(s)
	got, e := text.Read(s)
	if ok && (e != api.OK || !samePrograms(got, want)) {
		t.Fatalf("%q: %v %d, not %v", s, got, e, want)
	}
	if !ok && (e != api.ErrForm || len(got) != 0) {
		t.Fatalf("%q: %v %d, and it is none", s, got, e)
	}
	return ok
}

// isText tells a fault, unless p is shown as s, and s is read as p.
func isText(t *testing.T, name string, p []api.Func, s string) {
	t.Helper()
	if got, e := text.Show(p); got != s || e != api.OK {
		t.Errorf("%s: %q %d, not %q", name, got, e, s)
	}
	if got, e := text.Read(s); !samePrograms(got, p) || e != api.OK {
		t.Errorf("%s: %v %d, not %v", name, got, e, p)
	}
}

// refusesText tells a fault, unless s is not read for the reason want.
func refusesText(t *testing.T, name, s string, want api.Errno) {
	t.Helper()
	if p, e := text.Read(s); len(p) != 0 || e != want {
		t.Errorf("%s, %.60q: %v %d, not %d", name, s, p, e, want)
	}
}

// countText is the program count.
const countText = `func 0 1
make 1
store 0
load 0
push 7
resume
put
load 0
push 0
resume
put
load 0
push 0
resume
return
func 1 1
load 0
yield
pop
load 0
push 1
call 2
yield
pop
push 99
return
push 5
jump 9
func 2 2
load 0
load 1
add
return
`

func TestL1Example(t *testing.T) {
	isText(t, "the example", count(), countText)
	p, _ := forge.Prog(nine(), []int{3})
	isText(t, "an expression", p, "func 0 0\npush 3\ncall 1\nreturn\nfunc 1 1\nload 0\npush 5\nless\nzero 8\nload 0\nload 0\nmul\njump 9\npush 7\nreturn\n")
	isText(t, "the shortest", one(o(api.Jump, 0)), "func 0 0\njump 0\n")
}

// L1: each op by its name, with its number if it has one.
func TestL1Ops(t *testing.T) {
	rows := []struct {
		x    api.Op
		want string
	}{
		{o(api.Push, 0), "push 0"},
		{o(api.Push, 10), "push 10"},
		{o(api.Push, 999), "push 999"},
		{o(api.Pop, 0), "pop"},
		{o(api.Load, 3), "load 3"},
		{o(api.Store, 2), "store 2"},
		{o(api.Add, 0), "add"},
		{o(api.Sub, 0), "sub"},
		{o(api.Mul, 0), "mul"},
		{o(api.Less, 0), "less"},
		{o(api.Same, 0), "same"},
		{o(api.Jump, 2), "jump 2"},
		{o(api.Zero, 1), "zero 1"},
		{o(api.Call, 1), "call 1"},
		{o(api.Return, 0), "return"},
		{o(api.Make, 1), "make 1"},
		{o(api.Resume, 0), "resume"},
		{o(api.Yield, 0), "yield"},
		{o(api.Put, 0), "put"},
	}
	for _, row := range rows {
		// It is never come to: so it may be any.
		p := []api.Func{{Locals: 4, Code: append(gives(), row.x)}, {Args: 1, Locals: 3, Code: gives()}}
		isText(t, row.want, p, "func 0 4\npush 1\nreturn\n"+row.want+"\nfunc 1 3\npush 1\nreturn\n")
	}
}

func TestL1Greatest(t *testing.T) {
	var p []api.Func
	want := ""
	for f := range 5 {
		code := make([]api.Op, 24)
		want += fmt.Sprintf("func %d 4\n", min(f, 4))
		for at := range code {
			code[at] = o(api.Jump, 23)
			want += "jump 23\n"
		}
		p = append(p, api.Func{Args: min(f, 4), Locals: 4, Code: code})
	}
	isText(t, "as much as there may be", p, want)
	refusesText(t, "one op more", want+"jump 23\n", api.ErrForm)
	refusesText(t, "one function more", want+"func 0 0\njump 0\n", api.ErrForm)
}

func TestL1ShowErrors(t *testing.T) {
	for _, row := range wrongPrograms() {
		if s, e := text.Show(row.p); s != "" || e != row.want {
			t.Errorf("%s: %q %d, not %d", row.name, s, e, row.want)
		}
	}
	for kind := range 17 {
		p := one(append(gives(), o(kind, -1))...)
		if s, e := text.Show(p); s != "" || e != api.ErrRange {
			t.Errorf("A of -1, kind %d: %q %d", kind, s, e)
		}
	}
	if s, e := text.Show(one(append(gives(), o(api.Add, 1))...)); s != "" || e != api.ErrRange {
		t.Errorf("A of an Add: %q %d", s, e)
	}
}

// L1: ErrMany is told of more than MaxBytes bytes, and of nothing else.
func TestL1ReadMany(t *testing.T) {
	for _, unit := range []string{"x", "\n", " ", "\x00", "func 0 0\n", "jump 0\n", countText} {
		most := strings.Repeat(unit, 8192)[:8192]
		refusesText(t, "MaxBytes", most, api.ErrForm)
		refusesText(t, "one more", most+"\n", api.ErrMany)
		refusesText(t, "very many", strings.Repeat(most, 100), api.ErrMany)
	}
	refusesText(t, "good, and more up to MaxBytes", countText+strings.Repeat("\n", 8192-len(countText)), api.ErrForm)
	refusesText(t, "good, and more beyond MaxBytes", countText+strings.Repeat("\n", 8193-len(countText)), api.ErrMany)
}

// L1: ErrForm, whatever it is that prog.Check tells.
func TestL1NoRightProgram(t *testing.T) {
	for _, row := range wrongPrograms() {
		if row.want != api.ErrKind {
			refusesText(t, row.name, textOf(row.p), api.ErrForm)
		}
	}
	rows := map[string][]api.Func{
		"no such local":         with(func(p []api.Func) { p[2].Code[0].A = 2 }),
		"number 1000":           with(func(p []api.Func) { p[1].Code[8].A = 1000 }),
		"no such op":            with(func(p []api.Func) { p[1].Code[11].A = 12 }),
		"no such function":      with(func(p []api.Func) { p[1].Code[5].A = 3 }),
		"a fiber of two Args":   with(func(p []api.Func) { p[0].Code[0].A = 2 }),
		"more Args than Locals": with(func(p []api.Func) { p[2].Locals = 1 }),
		"Args below 0":          with(func(p []api.Func) { p[2].Args = -1 }),
		"A below 0":             with(func(p []api.Func) { p[1].Code[10].A = -1 }),
		"an op takes too much":  with(func(p []api.Func) { p[2].Code[0] = o(api.Pop, 0) }),
		"the end is missing":    with(func(p []api.Func) { p[2].Code = p[2].Code[:3] }),
	}
	for name, p := range rows {
		if prog.Check(p) == api.OK {
			t.Errorf("%s: it is right", name)
		}
		refusesText(t, name, textOf(p), api.ErrForm)
	}
}

func TestL1ReadForm(t *testing.T) {
	lines := map[string]string{
		"push 1": "|push|push |push  1| push 1|push 1 |push 1 1|push 1\n|push 1\r|push\t1|push\u00a01|push 1,|push 1.0|push 0x1|push 1_0|push 1e0|push +1|push -1|push -0|push 01|push 00|push 001|push \u0661|push 1000|push 9999999|push 18446744073709551617|push 4294967297|push a|push1|Push 1|PUSH 1|pus 1|pushh 1|\x00push 1|push 1\x00|push 1;|#|0 1|1|func|put 1|mul 1",
		"return": "|return |return 0| return|Return|RETURN|return return|return\n|return\r|retur|returns|ret|func 0 0|func",
		"func 0 0": "|func|func |func 0|func 0 |func 0  0|func 0 0 |func 0 0 0|func  0 0| func 0 0|Func 0 0|FUNC 0 0|fun 0 0|func 00 0|func 0 00|func +0 0|func 0 -0|func -1 0|func 0 -1|func a 0|func 0 a|" +
			"func 1 1|func 0 5|func 1 0|func 0 0\n|func 0 0\nfunc 0 0|push 1|18446744073709551616 0|func 18446744073709551616 0|func 0 18446744073709551616|func 0 0\r|func\t0 0|\xef\xbb\xbffunc 0 0",
	}
	good := "func 0 0\npush 1\nreturn\n"
	isText(t, "good", one(gives()...), good)
	for line, others := range lines {
		for _, other := range strings.Split(others, "|") {
			turned := strings.Replace(good, line, other, 1)
			refusesText(t, "a line", turned, api.ErrForm)
			refusesText(t, "a line of the first function", turned+good, api.ErrForm)
			holdText(t, good+turned) // a later function may have Args
		}
	}
	for _, s := range []string{"", "\n", "\n\n", " ", "\x00", good + "\n", "\n" + good, good + " ", good + "x", good + "x\n", good + "func 0 0\n", good + "return\nfunc", good + "\x00", strings.ReplaceAll(good, "\n", "\r\n"), strings.ReplaceAll(good, "\n", " "), strings.ReplaceAll(good, " ", "\n")} {
		refusesText(t, "a text", s, api.ErrForm)
	}
}

// L1: the text is all there, and there is no more.
func TestL1Ends(t *testing.T) {
	for n := range len(countText) {
		holdText(t, countText[:n])
		holdText(t, countText[n+1:])
	}
	refusesText(t, "without the last line feed", strings.TrimSuffix(countText, "\n"), api.ErrForm)
}

// L2: each byte of the example, changed in each way, left out, or with another one ahead of it.
func TestL2EachByte(t *testing.T) {
	for i := range len(countText) {
		holdText(t, countText[:i]+countText[i+1:])
		for c := range 256 {
			one := string([]byte{byte(c)})
			holdText(t, countText[:i]+one+countText[i+1:])
			holdText(t, countText[:i]+one+countText[i:])
		}
	}
}

// turnedText is some text that mostly shows no right program.
func turnedText(r *rand.Rand, s string) string {
	at := r.Intn(len(s))
	lines := strings.SplitAfter(s, "\n")
	k := r.Intn(len(lines))
	switch r.Intn(6) {
	case 0:
		return s[:at] + s[at+1:]
	case 1:
		return s[:at] + string("0123456789 \n-+"[r.Intn(14)]) + s[at:]
	case 2:
		lines[k] = lines[r.Intn(len(lines))]
	case 3:
		lines[k] = ""
	case 4:
		name := strings.Split(names, "|")[r.Intn(17)]
		if strings.HasSuffix(name, " ") {
			name += fmt.Sprint(r.Intn(5))
		}
		lines[k] = name + "\n"
	default:
		return s[:at] + string("0123456789 \nx"[r.Intn(13)]) + s[at+1:]
	}
	return strings.Join(lines, "")
}

// L2: what is shown is read as it was, and nothing else is.
func TestL2Drawn(t *testing.T) {
	r := rand.New(rand.NewSource(31))
	right, wrong := 0, 0
	for range 5000 {
		p := built(r)
		s, e := text.Show(p)
		if s != textOf(p) || e != api.OK {
			t.Fatalf("%v: %q %d, not %q", p, s, e, textOf(p))
		}
		if back, e := text.Read(s); !samePrograms(back, p) || e != api.OK {
			t.Fatalf("%q: %v %d, not %v", s, back, e, p)
		}
		for s != "" {
			s = turnedText(r, s)
			if !holdText(t, s) {
				wrong++
				break
			}
			right++
		}
	}
	if right < 500 || wrong < 4000 {
		t.Errorf("%d were programs, %d were none", right, wrong)
	}
}
