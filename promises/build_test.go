package promises

import (
	"math/rand"

	"glebe/api"
)

// builder writes the code of a function, which has heights by how it is written.
type builder struct {
	r    *rand.Rand
	p    []api.Func
	f    int
	code []api.Op
	dead []int // ops to which one never comes
}

// built is a right program drawn by r: it has branches, loops, calls, fibers, and ops to which one never comes.
func built(r *rand.Rand) []api.Func {
	p := make([]api.Func, 2+r.Intn(4))
	for f := 1; f < len(p); f++ {
		p[f].Args = 1
		if f > 1 {
			p[f].Args = r.Intn(3)
		}
	}
	for f := range p {
		p[f].Locals = max(1, p[f].Args+r.Intn(api.MaxLocals-p[f].Args+1))
	}
	for f := range p {
		for len(p[f].Code) == 0 || len(p[f].Code) > api.MaxOps {
			b := builder{r: r, p: p, f: f}
			p[f].Code = b.function()
		}
	}
	return p
}

func (b *builder) emit(kind, a int) int {
	b.code = append(b.code, o(kind, a))
	return len(b.code) - 1
}

func (b *builder) function() []api.Op {
	if b.f == 0 && b.r.Intn(4) > 0 {
		b.emit(api.Make, 1)
		b.emit(api.Store, 0)
	}
	for range 1 + b.r.Intn(4) {
		b.part(2)
	}
	b.value(2)
	b.emit(api.Return, 0)
	b.waste()
	for _, at := range b.dead {
		if x := &b.code[at]; x.Kind == api.Jump || x.Kind == api.Zero {
			x.A = b.r.Intn(len(b.code))
		}
	}
	return b.code
}

// part leaves the stack as high as it was.
func (b *builder) part(deep int) {
	if deep == 0 {
		b.value(0)
		b.emit(api.Put, 0)
		return
	}
	switch b.r.Intn(8) {
	case 0:
		b.branch(deep)
	case 1:
		start := len(b.code)
		b.part(deep - 1)
		b.value(deep - 1)
		b.emit(api.Zero, start)
	case 2:
		over := b.emit(api.Jump, 0)
		b.waste()
		b.code[over].A = len(b.code)
	case 3:
		b.value(deep)
		b.emit(api.Pop, 0)
	case 4, 5:
		b.value(deep)
		b.emit(api.Store, b.local())
	default:
		b.value(deep)
		b.emit(api.Put, 0)
	}
}

func (b *builder) branch(deep int) {
	b.value(deep - 1)
	other := b.emit(api.Zero, 0)
	b.part(deep - 1)
	end := b.emit(api.Jump, 0)
	b.waste()
	b.code[other].A = len(b.code)
	b.part(deep - 1)
	b.code[end].A = len(b.code)
}

// value leaves one more on the stack.
func (b *builder) value(deep int) {
	if deep == 0 {
		b.simple()
		return
	}
	switch b.r.Intn(8) {
	case 0:
		b.value(deep - 1)
		b.value(deep - 1)
		b.emit(api.Add+b.r.Intn(5), 0)
	case 1:
		g := b.r.Intn(len(b.p))
		for range b.p[g].Args {
			b.value(deep - 1)
		}
		b.emit(api.Call, g)
	case 2, 3:
		if b.f != 0 || b.r.Intn(20) == 0 {
			b.value(deep - 1)
			b.emit(api.Yield, 0)
			return
		}
		b.resume(deep)
	case 4:
		b.resume(deep)
	case 5:
		b.emit(api.Make, 1)
	default:
		b.simple()
	}
}

// resume is what a fiber gives, mostly one that there is.
func (b *builder) resume(deep int) {
	switch b.r.Intn(4) {
	case 0:
		b.emit(api.Make, 1)
	case 1:
		b.emit(api.Push, 1+b.r.Intn(3))
	case 2:
		b.emit(api.Load, 0)
	default:
		b.simple()
	}
	b.value(deep - 1)
	b.emit(api.Resume, 0)
}

// simple is a value of one op.
func (b *builder) simple() {
	switch b.r.Intn(4) {
	case 0:
		b.emit(api.Push, b.r.Intn(1000))
	case 1:
		b.emit(api.Push, b.r.Intn(4))
	default:
		b.emit(api.Load, b.local())
	}
}

func (b *builder) local() int { return b.r.Intn(b.p[b.f].Locals) }

// waste are ops to which one never comes, whatever they are.
func (b *builder) waste() {
	for range b.r.Intn(3) {
		x := drawnOp(b.r, len(b.p), api.Func{Locals: b.p[b.f].Locals, Code: b.code})
		if x.Kind == api.Make {
			x.A = 1
		}
		b.dead = append(b.dead, b.emit(x.Kind, x.A))
	}
}
