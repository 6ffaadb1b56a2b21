package show

import (
	"strconv"

	"weftway/api"
)

// strength is how strongly something holds together.
type strength uint8

// From the weakest one on.
const (
	ofOr strength = iota
	ofAnd
	ofNot
	ofCompare
	ofSum
	ofProduct
	ofMinus
	ofOthers
)

func strengthOf(op uint8) strength {
	switch op {
	case api.EOr:
		return ofOr
	case api.EAnd:
		return ofAnd
	case api.ENot:
		return ofNot
	case api.ELess, api.EEqual:
		return ofCompare
	case api.EAdd, api.ESub:
		return ofSum
	case api.EMul, api.EDiv, api.EMod:
		return ofProduct
	case api.ENeg:
		return ofMinus
	}
	return ofOthers
}

// exprWords are the signs and words of expressions that have one.
var exprWords = [...]string{
	api.ENeg: "-", api.ENot: "not",
	api.EAdd: "+", api.ESub: "-", api.EMul: "*", api.EDiv: "/", api.EMod: "%",
	api.ELess: "<", api.EEqual: "==", api.EAnd: "and", api.EOr: "or",
	api.EBox: "box", api.EUnbox: "unbox", api.ECell: "cell", api.ERc: "rc", api.EArc: "arc",
	api.EMutex: "mutex", api.EOpen: "open", api.EAtomic: "atomic",
	api.EGet: "get", api.EClone: "clone", api.ELoad: "load", api.ERecv: "recv",
	api.ESet: "set", api.EStore: "store", api.EFetch: "fetch", api.ESend: "send",
}

func (w *writer) expr(e api.Expr) {
	switch e.Op {
	case api.EInt:
		w.put(strconv.FormatInt(e.Int, 10))
	case api.EBool:
		w.put(strconv.FormatBool(e.Int == 1))
	case api.EUnit:
		w.put("(", ")")
	case api.EUse:
		w.place(e.Place)
	case api.EShare:
		w.put("&")
		w.place(e.Place)
	case api.EMut:
		w.put("&", "mut")
		w.place(e.Place)
	case api.ECall:
		w.put(e.Name, "(")
		w.exprs(e.Args)
		w.put(")")
	case api.EStruct:
		w.put(e.Name, "{")
		w.pairs(e.Place.Path, e.Args)
		w.put("}")
	case api.EEnum:
		w.enum(e)
	case api.ENeg, api.ENot:
		w.put(exprWords[e.Op])
		w.side(e.Args[0], strengthOf(e.Op))
	case api.EAdd, api.ESub, api.EMul, api.EDiv, api.EMod, api.ELess, api.EEqual, api.EAnd, api.EOr:
		w.sides(e)
	default:
		w.worded(e)
	}
}

func (w *writer) exprs(list []api.Expr) {
	w.list(len(list), func(i int) { w.expr(list[i]) })
}

// pairs writes each name, and what it is given.
func (w *writer) pairs(names []string, list []api.Expr) {
	w.list(len(list), func(i int) {
		w.put(names[i], "=")
		w.expr(list[i])
	})
}

func (w *writer) enum(e api.Expr) {
	w.put(e.Name, ".", e.Second)
	if len(e.Args) == 0 {
		return
	}
	w.put("(")
	w.expr(e.Args[0])
	w.put(")")
}

// sides writes a sign between its two sides.
func (w *writer) sides(e api.Expr) {
	own := strengthOf(e.Op)
	left := own
	if own == ofCompare {
		left++
	}
	w.side(e.Args[0], left)
	w.put(exprWords[e.Op])
	w.side(e.Args[1], own+1)
}

// side writes what stands beside a sign: in parentheses, if it doesn't hold together as strongly as it must.
func (w *writer) side(e api.Expr, must strength) {
	if strengthOf(e.Op) >= must {
		w.expr(e)
		return
	}
	w.put("(")
	w.expr(e)
	w.put(")")
}

// worded writes a word, and in parentheses the place and the expression that it is asked of: either, or both.
func (w *writer) worded(e api.Expr) {
	w.put(exprWords[e.Op], "(")
	hasPlace := e.Place.Name != ""
	if hasPlace {
		w.place(e.Place)
	}
	if hasPlace && len(e.Args) > 0 {
		w.put(",")
	}
	w.exprs(e.Args)
	w.put(")")
}
