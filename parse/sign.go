package parse

import "weftway/api"

// strength is how strongly something holds together.
type strength uint8

// From the weakest one on.
const (
	ofOr strength = iota
	ofAnd
	ofNot
	ofCompare
	ofSum
	ofProduct
	ofMinus
	ofOthers
)

func strengthOf(op uint8) strength {
	switch op {
	case api.EOr:
		return ofOr
	case api.EAnd:
		return ofAnd
	case api.ENot:
		return ofNot
	case api.ELess, api.EEqual:
		return ofCompare
	case api.EAdd, api.ESub:
		return ofSum
	case api.EMul, api.EDiv, api.EMod:
		return ofProduct
	case api.ENeg:
		return ofMinus
	}
	return ofOthers
}

// leftOf tells how strongly what stands on the left of a sign must hold together.
func leftOf(own strength) strength {
	if own == ofCompare {
		return own + 1
	}
	return own
}

// betweenOf tells what a sign between two sides makes of them.
func betweenOf(sign string) uint8 {
	switch sign {
	case "or":
		return api.EOr
	case "and":
		return api.EAnd
	case "<":
		return api.ELess
	case "==":
		return api.EEqual
	case "+":
		return api.EAdd
	case "-":
		return api.ESub
	case "*":
		return api.EMul
	case "/":
		return api.EDiv
	case "%":
		return api.EMod
	}
	return 0
}

// aheadOf tells what a sign ahead of an expression makes of it.
func aheadOf(sign string) uint8 {
	switch sign {
	case "not":
		return api.ENot
	case "-":
		return api.ENeg
	}
	return 0
}

// asked is what stands in the parentheses behind a word.
type asked uint8

const (
	anExpr asked = iota
	aPlace
	both
)

// wordOf tells which expression a word begins, and what it is asked of.
func wordOf(word string) (uint8, asked) {
	switch word {
	case "box":
		return api.EBox, anExpr
	case "unbox":
		return api.EUnbox, anExpr
	case "cell":
		return api.ECell, anExpr
	case "rc":
		return api.ERc, anExpr
	case "arc":
		return api.EArc, anExpr
	case "mutex":
		return api.EMutex, anExpr
	case "open":
		return api.EOpen, anExpr
	case "atomic":
		return api.EAtomic, anExpr
	case "get":
		return api.EGet, aPlace
	case "clone":
		return api.EClone, aPlace
	case "load":
		return api.ELoad, aPlace
	case "recv":
		return api.ERecv, aPlace
	case "set":
		return api.ESet, both
	case "store":
		return api.EStore, both
	case "fetch":
		return api.EFetch, both
	case "send":
		return api.ESend, both
	}
	return 0, anExpr
}
