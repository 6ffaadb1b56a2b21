package tree

import (
	"math"

	"weftway/api"
)

// A shape says which fields count for a kind, and what may stand in them: the chapter's tables. That of no kind isn't known.

type typeShape struct {
	known bool
	name  text
	args  int
}

type exprShape struct {
	known        bool
	greatest     int64 // of Int, which is from 0 on
	name, second text
	place        bool
	fields       bool // the Place's Path has the names of the Args' fields
	fewest, most int  // of Args
}

type stmtShape struct {
	known        bool
	name, second text
	names        bool
	exprs        int
	pairs        bool // as many Exprs as Names
	place, queue bool
	body, other  bool
	arms         bool
}

type itemShape struct {
	known           bool
	name, fieldName text
	body            bool
	fields          standing // of the Fields' types
	rest            standing // of Result and Return
}

func typeShapeOf(kind uint8) typeShape {
	switch kind {
	case api.TInt, api.TBool, api.TUnit, api.TAtomic:
		return typeShape{known: true}
	case api.TNamed:
		return typeShape{known: true, name: aTypeName}
	case api.TBox, api.TCell, api.TRc, api.TArc, api.TMutex, api.TSender, api.TReceiver, api.TRef, api.TMut:
		return typeShape{known: true, args: 1}
	}
	return typeShape{}
}

func exprShapeOf(op uint8) exprShape {
	switch op {
	case api.EInt:
		return exprShape{known: true, greatest: math.MaxInt64}
	case api.EBool:
		return exprShape{known: true, greatest: 1}
	case api.EUnit:
		return exprShape{known: true}
	case api.EUse, api.EShare, api.EMut, api.EGet, api.EClone, api.ELoad, api.ERecv:
		return exprShape{known: true, place: true}
	case api.ESet, api.EStore, api.EFetch, api.ESend:
		return exprShape{known: true, place: true, fewest: 1, most: 1}
	case api.ENeg, api.ENot, api.EBox, api.EUnbox, api.ECell, api.ERc, api.EArc, api.EMutex, api.EOpen, api.EAtomic:
		return exprShape{known: true, fewest: 1, most: 1}
	case api.EAdd, api.ESub, api.EMul, api.EDiv, api.EMod, api.ELess, api.EEqual, api.EAnd, api.EOr:
		return exprShape{known: true, fewest: 2, most: 2}
	case api.ECall:
		return exprShape{known: true, name: aName, most: api.MaxFields}
	case api.EStruct:
		return exprShape{known: true, name: aTypeName, fields: true, most: api.MaxFields}
	case api.EEnum:
		return exprShape{known: true, name: aTypeName, second: aTypeName, most: 1}
	}
	return exprShape{}
}

func stmtShapeOf(op uint8) stmtShape {
	switch op {
	case api.SLet:
		return stmtShape{known: true, name: aName, exprs: 1}
	case api.STake:
		return stmtShape{known: true, name: aTypeName, names: true, exprs: 1}
	case api.SAssign:
		return stmtShape{known: true, place: true, exprs: 1}
	case api.SDo:
		return stmtShape{known: true, exprs: 1}
	case api.SDrop:
		return stmtShape{known: true, name: aName}
	case api.SIf:
		return stmtShape{known: true, exprs: 1, body: true, other: true}
	case api.SWhile:
		return stmtShape{known: true, exprs: 1, body: true}
	case api.SMatch:
		return stmtShape{known: true, name: aName, second: aTypeName, arms: true}
	case api.SScope, api.SBlock:
		return stmtShape{known: true, body: true}
	case api.SSpawn:
		return stmtShape{known: true, pairs: true, body: true}
	case api.SLock:
		return stmtShape{known: true, place: true, name: aName, body: true}
	case api.SChan:
		return stmtShape{known: true, queue: true, name: aName, second: aName}
	}
	return stmtShape{}
}

func itemShapeOf(kind uint8) itemShape {
	switch kind {
	case api.IStruct:
		return itemShape{known: true, name: aTypeName, fieldName: aName, rest: zeroOnly}
	case api.IEnum:
		return itemShape{known: true, name: aTypeName, fieldName: aTypeName, fields: zeroToo, rest: zeroOnly}
	case api.IFn:
		return itemShape{known: true, name: aName, fieldName: aName, body: true}
	}
	// No row of the table names the Return of an item of no kind.
	return itemShape{rest: zeroOnly}
}
