package promises

import (
	"encoding/binary"
	"fmt"
	"math/rand"
	"strings"
	"testing"

	"glebe/api"
	"glebe/run"
	"glebe/save"
	"glebe/state"
)

// bytesOf is what I1 tells of Write, of a right state.
func bytesOf(s api.State) string {
	b := []byte{byte(s.Now + 1), byte(len(s.Fibers))}
	values := func(l []int) {
		b = append(b, byte(len(l)))
		for _, v := range l {
			b = binary.BigEndian.AppendUint64(b, uint64(v))
		}
	}
	for _, one := range s.Fibers {
		b = append(b, byte(one.Caller+1), byte(len(one.Frames)))
		for _, x := range one.Frames {
			b = append(b, byte(x.Func), byte(x.At))
			values(x.Locals)
			values(x.Stack)
		}
	}
	values(s.Out)
	return string(b)
}

// scanner goes through bytes; behind their end there are zeros.
type scanner struct {
	b  string
	at int
}

func (c *scanner) byte() int {
	c.at++
	if c.at > len(c.b) {
		return 0
	}
	return int(c.b[c.at-1])
}

func (c *scanner) values() []int {
	l := make([]int, c.byte())
	for k := range l {
		var eight [8]byte
		for i := range eight {
			eight[i] = byte(c.byte())
		}
		l[k] = int(binary.BigEndian.Uint64(eight[:]))
	}
	return l
}

// stateOf is what I1 tells of Read, of a right program, said another way; false, if the bytes are no right state's.
func stateOf(p []api.Func, b string) (api.State, bool) {
	c := &scanner{b: b}
	s := api.State{Now: c.byte() - 1}
	for range c.byte() {
		one := api.Fiber{Caller: c.byte() - 1}
		for range c.byte() {
			f, at := c.byte(), c.byte()
			locals := c.values()
			one.Frames = append(one.Frames, frame(f, at, locals, c.values()))
		}
		s.Fibers = append(s.Fibers, one)
	}
	s.Out = c.values()
	return s, c.at == len(b) && judged(p, s) == api.OK
}

// reads tells a fault, unless b is read as want.
func reads(t *testing.T, name string, p []api.Func, b string, want api.State) {
	t.Helper()
	if s, e := save.Read(p, b); e != api.OK || shown(s) != shown(want) {
		t.Errorf("%s: %s %d, not %s", name, shown(s), e, shown(want))
	}
}

// refuses tells a fault, unless b is not read for the reason want.
func refuses(t *testing.T, name string, p []api.Func, b string, want api.Errno) {
	t.Helper()
	if s, e := save.Read(p, b); !isNoState(s) || e != want {
		t.Errorf("%s: %s %d, not %d", name, shown(s), e, want)
	}
}

// six is the document's example: count, behind six steps.
func six() api.State {
	return api.State{Fibers: []api.Fiber{fiber(-1, frame(0, 5, []int{1}, nil)), fiber(0, frame(1, 1, []int{7}, []int{7}))}, Now: 1}
}

func TestI1Example(t *testing.T) {
	const seven = "\x00\x00\x00\x00\x00\x00\x00"
	main := "\x00\x01" + "\x00\x05" + "\x01" + seven + "\x01" + "\x00"
	other := "\x01\x01" + "\x01\x01" + "\x01" + seven + "\x07" + "\x01" + seven + "\x07"
	rows := []struct {
		name, want string
		s          api.State
	}{
		{"behind six steps", "\x02\x02" + main + other + "\x00", six()},
		{"at the beginning", "\x01\x01" + "\x00\x01" + "\x00\x00" + "\x01" + seven + "\x00" + "\x00" + "\x00", begun(count())},
		{"at the end", "\x00\x02" + "\x00\x00" + "\x00\x00" + "\x03" + seven + "\x07" + seven + "\x08" + seven + "\x63",
			api.State{Fibers: []api.Fiber{fiber(-1), fiber(-1)}, Now: -1, Out: []int{7, 8, 99}}},
	}
	for _, row := range rows {
		if b, e := save.Write(count(), row.s); b != row.want || e != api.OK {
			t.Errorf("%s: %q %d, not %q", row.name, b, e, row.want)
		}
		reads(t, row.name, count(), row.want, row.s)
	}
	if b, _ := save.Write(count(), six()); len(b) != 39 {
		t.Errorf("that state has %d bytes", len(b))
	}
}

// I1: values are eight bytes, the highest one first; they may be any, in each place.
func TestI1Values(t *testing.T) {
	rows := map[int]string{
		0:                  "\x00\x00\x00\x00\x00\x00\x00\x00",
		1:                  "\x00\x00\x00\x00\x00\x00\x00\x01",
		128:                "\x00\x00\x00\x00\x00\x00\x00\x80",
		256:                "\x00\x00\x00\x00\x00\x00\x01\x00",
		1 << 32:            "\x00\x00\x00\x01\x00\x00\x00\x00",
		0x0102030405060708: "\x01\x02\x03\x04\x05\x06\x07\x08",
		-1:                 "\xff\xff\xff\xff\xff\xff\xff\xff",
		-2:                 "\xff\xff\xff\xff\xff\xff\xff\xfe",
		-256:               "\xff\xff\xff\xff\xff\xff\xff\x00",
		highest:            "\x7f\xff\xff\xff\xff\xff\xff\xff",
		lowest:             "\x80\x00\x00\x00\x00\x00\x00\x00",
	}
	const mark = 0x1122334455667788
	places := []func(s *api.State) *int{
		func(s *api.State) *int { return &s.Fibers[0].Frames[0].Locals[0] },
		func(s *api.State) *int { return &s.Fibers[1].Frames[1].Locals[1] },
		func(s *api.State) *int { return &s.Fibers[1].Frames[1].Stack[0] },
		func(s *api.State) *int { return &s.Out[0] },
	}
	for v, eight := range rows {
		for i, place := range places {
			s := four()
			*place(&s) = mark
			want := strings.Replace(bytesOf(s), "\x11\x22\x33\x44\x55\x66\x77\x88", eight, 1)
			*place(&s) = v
			if b, e := save.Write(count(), s); b != want || e != api.OK {
				t.Errorf("%d in place %d: %q %d, not %q", v, i, b, e, want)
			}
			reads(t, fmt.Sprintf("%d in place %d", v, i), count(), want, s)
		}
	}
}

func TestI1WriteErrors(t *testing.T) {
	tell := func(name string, p []api.Func, s api.State, want api.Errno) {
		t.Helper()
		if b, e := save.Write(p, s); b != "" || e != want {
			t.Errorf("%s: %q %d, not %d", name, b, e, want)
		}
	}
	for _, row := range wrongPrograms() {
		for _, s := range []api.State{four(), {}, {Now: -1}} {
			tell(row.name, row.p, s, row.want)
		}
	}
	rows := []changed{
		{"too many put out", func(s *api.State) { s.Out = make([]int, 31) }, api.ErrMany},
		{"more put out than a byte tells", func(s *api.State) { s.Out = make([]int, 257) }, api.ErrMany},
		{"too many fibers", func(s *api.State) { s.Fibers = make([]api.Fiber, 6) }, api.ErrMany},
		{"no fibers", func(s *api.State) { s.Fibers = nil }, api.ErrNone},
		{"Now is none", func(s *api.State) { s.Now = 4 }, api.ErrRange},
		{"Now is 256 more", func(s *api.State) { s.Now += 256 }, api.ErrRange},
		{"a Caller is none", func(s *api.State) { s.Fibers[3].Caller = -2 }, api.ErrRange},
		{"nobody runs, but main waits", func(s *api.State) { s.Now = -1 }, api.ErrForm},
		{"a function is none", func(s *api.State) { s.Fibers[1].Frames[1].Func = 256 + 2 }, api.ErrForm},
		{"another one is not as it must be", func(s *api.State) { s.Fibers[3].Frames[0].At = 1 }, api.ErrForm},
	}
	for _, row := range rows {
		s := four()
		row.change(&s)
		tell(row.name, count(), s, row.want)
	}
}

// I1: prog.Check's errors come first, then ErrMany, whatever the bytes are.
func TestI1ReadErrors(t *testing.T) {
	good := bytesOf(four())
	most := strings.Repeat("\x00", 8192)
	for _, row := range wrongPrograms() {
		for _, b := range []string{good, "", "x", most, most + "\x00"} {
			refuses(t, row.name, row.p, b, row.want)
		}
	}
	for _, c := range []string{"\x00", "\x01", "a", "\xff"} {
		refuses(t, "MaxBytes", count(), strings.Repeat(c, 8192), api.ErrForm)
		refuses(t, "one more", count(), strings.Repeat(c, 8193), api.ErrMany)
		refuses(t, "very many", count(), strings.Repeat(c, 1<<20), api.ErrMany)
	}
	refuses(t, "good ones, and others up to MaxBytes", count(), good+most[len(good):], api.ErrForm)
	refuses(t, "good ones, and others beyond MaxBytes", count(), good+most[len(good)-1:], api.ErrMany)
}

// I1: ErrForm, whatever it is that state.Check tells.
func TestI1NoRightState(t *testing.T) {
	rows := []changed{
		{"six fibers", func(s *api.State) { s.Fibers = append(s.Fibers, fiber(-1), fiber(-1)) }, api.ErrMany},
		{"seven frames", func(s *api.State) { s.Fibers[3].Frames = make([]api.Frame, 7) }, api.ErrMany},
		{"31 put out", func(s *api.State) { s.Out = make([]int, 31) }, api.ErrMany},
		{"no fiber", func(s *api.State) { s.Fibers = nil }, api.ErrNone},
		{"no fiber, nobody runs", func(s *api.State) { s.Fibers, s.Now = nil, -1 }, api.ErrNone},
		{"Now 4", func(s *api.State) { s.Now = 4 }, api.ErrRange},
		{"Now 254", func(s *api.State) { s.Now = 254 }, api.ErrRange},
		{"Caller 4", func(s *api.State) { s.Fibers[3].Caller = 4 }, api.ErrRange},
		{"no such function", func(s *api.State) { s.Fibers[3].Frames[0].Func = 3 }, api.ErrForm},
		{"one local more", func(s *api.State) { s.Fibers[3].Frames[0].Locals = []int{3, 0} }, api.ErrForm},
		{"one never comes there", func(s *api.State) { s.Fibers[3].Frames[0].At = 11 }, api.ErrForm},
		{"who runs has too little", func(s *api.State) { s.Fibers[1].Frames[1].Stack = nil }, api.ErrForm},
		{"Now has itself", func(s *api.State) { s.Fibers[1].Caller = 1 }, api.ErrForm},
	}
	for _, row := range rows {
		s := four()
		row.change(&s)
		if e := state.Check(count(), s); e != row.want {
			t.Errorf("%s: state.Check tells %d", row.name, e)
		}
		refuses(t, row.name, count(), bytesOf(s), api.ErrForm)
	}
	refuses(t, "another program's", many(3), bytesOf(four()), api.ErrForm)
}

// I1: the bytes are all there, and there are no more.
func TestI1EndsEarly(t *testing.T) {
	for _, s := range []api.State{four(), six(), begun(count())} {
		good := bytesOf(s)
		reads(t, "all", count(), good, s)
		for n := range len(good) {
			refuses(t, fmt.Sprintf("the first %d", n), count(), good[:n], api.ErrForm)
			refuses(t, fmt.Sprintf("all but the first %d", n+1), count(), good[n+1:], api.ErrForm)
		}
		for c := range 256 {
			refuses(t, "one more", count(), good+string([]byte{byte(c)}), api.ErrForm)
		}
		refuses(t, "twice", count(), good+good, api.ErrForm)
	}
}

// I1: each byte of the example, changed in each way, is read as the promise tells, said another way.
func TestI1EachByte(t *testing.T) {
	for _, s := range []api.State{four(), six()} {
		good := bytesOf(s)
		for i := range len(good) {
			for c := range 256 {
				holdRead(t, count(), good[:i]+string([]byte{byte(c)})+good[i+1:])
			}
		}
	}
}

// holdRead holds Read against stateOf, and tells whether there was a state.
func holdRead(t *testing.T, p []api.Func, b string) bool {
	t.Helper()
	want, ok := stateOf(p, b)
	got, e := save.Read(p, b)
	if ok && (e != api.OK || shown(got) != shown(want)) {
		t.Fatalf("%v, %q: %s %d, not %s", p, b, shown(got), e, shown(want))
	}
	if !ok && (e != api.ErrForm || !isNoState(got)) {
		t.Fatalf("%v, %q: %s %d, and it is none", p, b, shown(got), e)
	}
	return ok
}

// turnedBytes are some bytes that are mostly no state's.
func turnedBytes(r *rand.Rand, b string) string {
	at := r.Intn(len(b))
	switch r.Intn(5) {
	case 0:
		return b[:at] + b[at+1:]
	case 1:
		return b[:at] + string([]byte{byte(r.Intn(4))}) + b[at:]
	case 2:
		return b[:at] + b[r.Intn(len(b)):]
	}
	return b[:at] + string([]byte{byte(r.Intn(256) >> r.Intn(8))}) + b[at+1:]
}

func TestI1Drawn(t *testing.T) {
	r := rand.New(rand.NewSource(20))
	right, wrong := 0, 0
	for range 10000 {
		p := built(r)
		s := rightState(r, p)
		want := bytesOf(s)
		if b, e := save.Write(p, s); b != want || e != api.OK {
			t.Fatalf("%v at %s: %q %d, not %q", p, shown(s), b, e, want)
		}
		for b := want; ; b = turnedBytes(r, b) {
			if !holdRead(t, p, b) {
				wrong++
				break
			}
			right++
		}
	}
	if right < 12000 || wrong < 9000 {
		t.Errorf("%d were states, %d were none", right, wrong)
	}
}

// I1, I2: a state as great as there is one has room in MaxBytes.
func TestI2Greatest(t *testing.T) {
	var code []api.Op
	for range 8 {
		code = append(code, o(api.Push, 1))
	}
	code = append(code, o(api.Yield, 0), o(api.Pop, 0), o(api.Call, 0))
	for range 7 {
		code = append(code, o(api.Pop, 0))
	}
	p := []api.Func{{Locals: 4, Code: append(code, o(api.Return, 0))}}
	last := 0
	values := func(n int) []int {
		l := make([]int, n)
		for k := range l {
			last -= 0x0123456789abcdef
			l[k] = last
		}
		return l
	}
	s := api.State{Out: values(30)}
	for n := range 5 {
		b := fiber(-1)
		for range 5 {
			b.Frames = append(b.Frames, frame(0, 11, values(4), values(7)))
		}
		top := frame(0, 9, values(4), values(7))
		if n == 0 {
			top = frame(0, 8, values(4), values(8))
		}
		b.Frames = append(b.Frames, top)
		s.Fibers = append(s.Fibers, b)
	}
	b, e := save.Write(p, s)
	if e != api.OK || b != bytesOf(s) || len(b) != 3021 {
		t.Errorf("%d: %d bytes, not those of the state", e, len(b))
	}
	reads(t, "a great state", p, b, s)
}

// I2: what is written is read as it was, and goes on as it would have.
func TestI2(t *testing.T) {
	r := rand.New(rand.NewSource(21))
	for range 3000 {
		p := built(r)
		s := rightState(r, p)
		b, e := save.Write(p, s)
		back, f := save.Read(p, b)
		if e != api.OK || f != api.OK || shown(back) != shown(s) {
			t.Fatalf("%v at %s: %d, and back as %s %d", p, shown(s), e, shown(back), f)
		}
		fuel := r.Intn(60)
		end, n, e := run.Run(p, back, fuel)
		want, steps, f := run.Run(p, s, fuel)
		if shown(end) != shown(want) || n != steps || e != f {
			t.Fatalf("%v at %s: goes on to %s %d %d, not %s %d %d", p, shown(s), shown(end), n, e, shown(want), steps, f)
		}
	}
	for n := range 29 {
		s, _, _ := run.Run(count(), begun(count()), n)
		b, _ := save.Write(count(), s)
		s, _ = save.Read(count(), b)
		end, steps, e := run.Run(count(), s, 500)
		if fmt.Sprint(end.Out) != "[7 8 99]" || n+steps != 28 || e != api.OK {
			t.Errorf("saved behind %d steps: %v by %d more, %d", n, end.Out, steps, e)
		}
	}
}
