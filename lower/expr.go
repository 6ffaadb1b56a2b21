package lower

import (
	"strings"

	"weftway/api"
)

// placeOps has for each expression that names a place the Op of its instruction.
var placeOps = [...]uint8{
	api.EUse:   api.OUse,
	api.EShare: api.ORef,
	api.EMut:   api.OMut,
	api.EGet:   api.OCellGet,
	api.ESet:   api.OCellSet,
	api.EClone: api.OClone,
	api.ELoad:  api.OLoad,
	api.EStore: api.OStore,
	api.EFetch: api.OFetch,
	api.ESend:  api.OSend,
	api.ERecv:  api.ORecv,
}

// kinds has for each expression that makes a value, or takes it apart, its kind.
var kinds = [...]uint8{
	api.EInt:    api.VInt,
	api.EBool:   api.VBool,
	api.EUnit:   api.VUnit,
	api.EBox:    api.VBox,
	api.EUnbox:  api.VBox,
	api.ECell:   api.VCell,
	api.ERc:     api.VRc,
	api.EArc:    api.VArc,
	api.EMutex:  api.VMutex,
	api.EOpen:   api.VMutex,
	api.EAtomic: api.VAtomic,
}

// makeOwns makes the table of what makes an expression's own instruction, by its Op.
func makeOwns() [api.ERecv + 1]func(*function, api.Expr) api.Instr {
	return [...]func(*function, api.Expr) api.Instr{
		api.EInt:    (*function).constant,
		api.EBool:   (*function).constant,
		api.EUnit:   (*function).constant,
		api.EUse:    (*function).placed,
		api.EShare:  (*function).placed,
		api.EMut:    (*function).placed,
		api.ENeg:    (*function).unary,
		api.ENot:    (*function).unary,
		api.EAdd:    (*function).binary,
		api.ESub:    (*function).binary,
		api.EMul:    (*function).binary,
		api.EDiv:    (*function).binary,
		api.EMod:    (*function).binary,
		api.ELess:   (*function).binary,
		api.EEqual:  (*function).binary,
		api.EAnd:    (*function).binary,
		api.EOr:     (*function).binary,
		api.ECall:   (*function).call,
		api.EStruct: (*function).structure,
		api.EEnum:   (*function).enum,
		api.EBox:    (*function).wrap,
		api.EUnbox:  (*function).unwrap,
		api.ECell:   (*function).wrap,
		api.EGet:    (*function).placed,
		api.ESet:    (*function).placed,
		api.ERc:     (*function).wrap,
		api.EArc:    (*function).wrap,
		api.EClone:  (*function).placed,
		api.EMutex:  (*function).wrap,
		api.EOpen:   (*function).unwrap,
		api.EAtomic: (*function).wrap,
		api.ELoad:   (*function).placed,
		api.EStore:  (*function).placed,
		api.EFetch:  (*function).placed,
		api.ESend:   (*function).placed,
		api.ERecv:   (*function).placed,
	}
}

// expr adds what an expression becomes: what it is made of, and behind that its own instruction.
func (f *function) expr(e api.Expr) {
	f.exprs(e.Args)
	own := f.owns[e.Op]
	f.add(own(f, e))
}

func (f *function) exprs(l []api.Expr) {
	for _, e := range l {
		f.expr(e)
	}
}

func (f *function) constant(e api.Expr) api.Instr {
	return api.Instr{Op: api.OConst, A: int(kinds[e.Op]), Int: e.Int}
}

func (f *function) placed(e api.Expr) api.Instr { return f.at(placeOps[e.Op], e.Place) }

func (f *function) unary(e api.Expr) api.Instr { return api.Instr{Op: api.OUnary, A: int(e.Op)} }

func (f *function) binary(e api.Expr) api.Instr { return api.Instr{Op: api.OBinary, A: int(e.Op)} }

func (f *function) call(e api.Expr) api.Instr {
	return api.Instr{Op: api.OCall, A: f.number[e.Name], B: len(e.Args)}
}

func (f *function) structure(e api.Expr) api.Instr {
	return api.Instr{Op: api.OStruct, Name: strings.Clone(e.Name), B: len(e.Args)}
}

func (f *function) enum(e api.Expr) api.Instr {
	return api.Instr{Op: api.OEnum, Name: strings.Clone(e.Name), A: f.variant(e.Name, e.Second), B: len(e.Args)}
}

func (f *function) wrap(e api.Expr) api.Instr {
	return api.Instr{Op: api.OWrap, A: int(kinds[e.Op])}
}

func (f *function) unwrap(e api.Expr) api.Instr {
	return api.Instr{Op: api.OUnwrap, A: int(kinds[e.Op])}
}
