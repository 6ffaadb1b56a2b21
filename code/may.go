package code

import (
	"slices"

	"weftway/api"
)

// maxFuncs is how many functions a unit may have.
const maxFuncs = 200

func mayTypes(types []api.Item) bool {
	if len(types) > api.MaxItems {
		return false
	}
	for i, t := range types {
		isAlike := func(x api.Item) bool { return x.Name == t.Name }
		isType := t.Kind == api.IStruct || t.Kind == api.IEnum
		if !isType || len(t.Fields) > api.MaxFields || slices.ContainsFunc(types[:i], isAlike) {
			return false
		}
	}
	return true
}

func mayFuncs(u api.Unit) bool {
	if len(u.Funcs) > maxFuncs || !isNumber(u.Main, u.Funcs) || u.Funcs[u.Main].Params != 0 {
		return false
	}
	isWrong := func(f api.Func) bool { return !(site{u, f}).mayFunc() }
	return !slices.ContainsFunc(u.Funcs, isWrong)
}

// site is where an instruction stands: a function of a unit.
type site struct {
	unit api.Unit
	fn   api.Func
}

func (s site) mayFunc() bool {
	f := s.fn
	isWrong := func(x api.Instr) bool { return !s.may(x) }
	return isName(f.Name) && 0 <= f.Params && f.Params <= f.Slots && f.Slots <= api.MaxVars &&
		len(f.Code) <= api.MaxCode && !slices.ContainsFunc(f.Code, isWrong)
}

// may says whether the instruction may be there.
func (s site) may(x api.Instr) bool {
	r := rowOf(x.Op)
	return r.known() &&
		s.fits(r.a, int64(x.A), x) && s.fits(r.b, int64(x.B), x) && s.fits(r.integer, x.Int, x) &&
		x.C == 0 && len(x.Names) == 0 &&
		r.fitsPath(x.Path) && s.fitsSlots(r, x.Slots) && r.fitsName(x.Name)
}

// fits says whether a number that stands in a field of x is of the sort.
func (s site) fits(asked sort, n int64, x api.Instr) bool {
	switch asked {
	case aSlot:
		return 0 <= n && n < int64(s.fn.Slots)
	case aJump:
		return within(n, 0, len(s.fn.Code))
	case aFunction:
		return within(n, 0, len(s.unit.Funcs)-1)
	case itsParams:
		// A is asked ahead of B, and so is a function's number.
		return n == int64(s.unit.Funcs[x.A].Params)
	case aConst:
		return within(n, int(api.VInt), int(api.VUnit))
	case ofConst:
		return fitsConst(x.A, n)
	case aUnary:
		return within(n, int(api.ENeg), int(api.ENot))
	case aBinary:
		return within(n, int(api.EAdd), int(api.EOr))
	case howManyFields:
		return within(n, 0, api.MaxFields)
	case aVariant:
		return within(n, 0, api.MaxFields-1)
	case noneOrOne:
		return within(n, 0, 1)
	case aWrap:
		return within(n, int(api.VBox), int(api.VAtomic))
	case anUnwrap:
		return n == int64(api.VBox) || n == int64(api.VMutex)
	case aRoom:
		return within(n, 1, api.MaxQueue)
	}
	return n == 0
}

func fitsConst(kind int, n int64) bool {
	switch kind {
	case int(api.VInt):
		return true
	case int(api.VBool):
		return within(n, 0, 1)
	}
	return n == 0
}

func (r row) fitsPath(path []string) bool {
	if !r.path {
		return len(path) == 0
	}
	// `*` is a text that a name may be, so that a step of either sort is one.
	isWrong := func(step string) bool { return !isName(step) }
	return len(path) <= api.MaxDeep && !slices.ContainsFunc(path, isWrong)
}

func (s site) fitsSlots(r row, jumps []int) bool {
	if !r.slots {
		return len(jumps) == 0
	}
	isWrong := func(to int) bool { return !within(int64(to), 0, len(s.fn.Code)) }
	return len(jumps) <= api.MaxFields && !slices.ContainsFunc(jumps, isWrong)
}

func (r row) fitsName(name string) bool {
	if !r.name {
		return name == ""
	}
	return isName(name)
}

func isName(s string) bool { return 1 <= len(s) && len(s) <= api.MaxName }

// isNumber says whether i is the number of one of the functions.
func isNumber(i int, funcs []api.Func) bool { return 0 <= i && i < len(funcs) }

func within(n int64, least, most int) bool { return int64(least) <= n && n <= int64(most) }
