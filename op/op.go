// Package op: ops: see doc/01-op.md.
package op

import "glebe/api"

// What an op's A names.
const (
	nothing = iota
	number
	local
	place
	function
	operands // how many of these there are
)

// kind is what all ops of a kind share.
type kind struct{ takes, leaves, operand int }

// What a Call takes hangs on its function, so it is no part of the table.
var kinds = [...]kind{
	api.Push:   {0, 1, number},
	api.Pop:    {1, 0, nothing},
	api.Load:   {0, 1, local},
	api.Store:  {1, 0, local},
	api.Add:    {2, 1, nothing},
	api.Sub:    {2, 1, nothing},
	api.Mul:    {2, 1, nothing},
	api.Less:   {2, 1, nothing},
	api.Same:   {2, 1, nothing},
	api.Jump:   {0, 0, place},
	api.Zero:   {1, 0, place},
	api.Call:   {0, 1, function},
	api.Return: {1, 0, nothing},
	api.Make:   {0, 1, function},
	api.Resume: {2, 1, nothing},
	api.Yield:  {1, 1, nothing},
	api.Put:    {1, 0, nothing},
}

// Check tells the first thing that is wrong with function f of p, its heights left aside.
func Check(p []api.Func, f int) api.Errno {
	if !isIndex(f, len(p)) {
		return api.ErrNone
	}
	if len(p[f].Code) > api.MaxOps {
		return api.ErrMany
	}
	if !hasRoom(p[f]) {
		return api.ErrRange
	}
	may := bounds(p, p[f])
	for _, x := range p[f].Code {
		if e := checkOp(p, x, may); e != api.OK {
			return e
		}
	}
	return api.OK
}

// Effect tells how many values x takes from the stack, and how many it leaves there instead.
func Effect(p []api.Func, x api.Op) (int, int, api.Errno) {
	if !isIndex(x.Kind, len(kinds)) {
		return 0, 0, api.ErrKind
	}
	k := kinds[x.Kind]
	if x.Kind != api.Call {
		return k.takes, k.leaves, api.OK
	}
	if !isIndex(x.A, len(p)) {
		return 0, 0, api.ErrNone
	}
	return p[x.A].Args, k.leaves, api.OK
}

func checkOp(p []api.Func, x api.Op, may [operands]func(a int) bool) api.Errno {
	if !isIndex(x.Kind, len(kinds)) {
		return api.ErrKind
	}
	if !may[kinds[x.Kind].operand](x.A) {
		return api.ErrRange
	}
	if x.Kind == api.Make && p[x.A].Args != 1 {
		return api.ErrForm
	}
	return api.OK
}

// bounds tells of each operand which numbers may stand for it in the function f of p.
func bounds(p []api.Func, f api.Func) [operands]func(a int) bool {
	return [operands]func(a int) bool{
		nothing:  func(a int) bool { return a == 0 },
		number:   func(a int) bool { return a >= 0 && a <= api.MaxNum },
		local:    func(a int) bool { return isIndex(a, f.Locals) },
		place:    func(a int) bool { return isIndex(a, len(f.Code)) },
		function: func(a int) bool { return isIndex(a, len(p)) && hasRoom(p[a]) },
	}
}

// hasRoom tells whether the Args have room in the Locals, and these in a frame.
func hasRoom(f api.Func) bool {
	return 0 <= f.Args && f.Args <= f.Locals && f.Locals <= api.MaxLocals
}

func isIndex(i, length int) bool { return i >= 0 && i < length }
