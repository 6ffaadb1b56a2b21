package tree

import (
	"slices"

	"weftway/api"
	"weftway/lex"
)

// text says what may stand where a text does.
type text uint8

const (
	noText text = iota
	aName
	aNameOrNone
	aTypeName
)

func (x text) fits(s string) bool {
	switch x {
	case aName:
		return lex.Name(s)
	case aNameOrNone:
		return s == "" || lex.Name(s)
	case aTypeName:
		return lex.Type(s)
	}
	return s == ""
}

// fitAll says whether there are at most as many as a list may have, and all of them fit.
func (x text) fitAll(list []string) bool {
	return len(list) <= api.MaxFields && !slices.ContainsFunc(list, func(s string) bool { return !x.fits(s) })
}

// isPlace says whether x is a place.
func isPlace(x api.Place) bool {
	return aName.fits(x.Name) && len(x.Path) <= api.MaxDeep && !slices.ContainsFunc(x.Path, isNoStep)
}

func isNoStep(s string) bool { return s != "*" && !aName.fits(s) }

func isZeroPlace(x api.Place) bool { return samePlace(x, api.Place{}) }

func (p program) fits() bool { return len(p.Items) <= api.MaxItems }

func (x item) fits() bool {
	shape := itemShapeOf(x.Kind)
	isWrong := func(f api.Field) bool { return !shape.fieldName.fits(f.Name) }
	return shape.known && shape.name.fits(x.Name) &&
		len(x.Fields) <= api.MaxFields && !slices.ContainsFunc(x.Fields, isWrong) &&
		(shape.body || len(x.Body) == 0)
}

func (s statement) fits() bool { return stmtShapeOf(s.Op).fits(*s.Stmt) }

func (e expression) fits() bool {
	if e.stands == zeroOnly {
		return sameExpr(*e.Expr, api.Expr{})
	}
	isLent := e.Op == api.EShare || e.Op == api.EMut
	return (!isLent || e.stands == lentToo) && exprShapeOf(e.Op).fits(*e.Expr)
}

func (t typed) fits() bool {
	if t.stands == zeroOnly || t.stands == zeroToo && t.Kind == 0 {
		return sameType(*t.Type, api.Type{})
	}
	shape := typeShapeOf(t.Kind)
	return shape.known && shape.name.fits(t.Name) && len(t.Args) == shape.args
}

func (shape exprShape) fits(e api.Expr) bool {
	return shape.known && 0 <= e.Int && e.Int <= shape.greatest &&
		shape.name.fits(e.Name) && shape.second.fits(e.Second) && shape.fitsPlace(e) &&
		shape.fewest <= len(e.Args) && len(e.Args) <= shape.most
}

func (shape exprShape) fitsPlace(e api.Expr) bool {
	switch {
	case shape.place:
		return isPlace(e.Place)
	case shape.fields:
		return e.Place.Name == "" && len(e.Place.Path) == len(e.Args) && aName.fitAll(e.Place.Path)
	}
	return isZeroPlace(e.Place)
}

func (shape stmtShape) fits(s api.Stmt) bool {
	return shape.known && shape.name.fits(s.Name) && shape.second.fits(s.Second) &&
		shape.fitsLists(s) && shape.fitsPlace(s.Place) && shape.fitsArms(s.Arms) &&
		(shape.body || len(s.Body) == 0) && (shape.other || len(s.Else) == 0) &&
		shape.fitsQueue(s)
}

// fitsLists says whether there are as many Names and Exprs as there may be.
func (shape stmtShape) fitsLists(s api.Stmt) bool {
	switch {
	case shape.pairs:
		return len(s.Exprs) == len(s.Names) && aName.fitAll(s.Names)
	case shape.names:
		return len(s.Exprs) == shape.exprs && aName.fitAll(s.Names)
	}
	return len(s.Exprs) == shape.exprs && len(s.Names) == 0
}

func (shape stmtShape) fitsPlace(x api.Place) bool {
	if shape.place {
		return isPlace(x)
	}
	return isZeroPlace(x)
}

func (shape stmtShape) fitsArms(arms []api.Arm) bool {
	if !shape.arms {
		return len(arms) == 0
	}
	isWrong := func(a api.Arm) bool { return !aTypeName.fits(a.Variant) || !aNameOrNone.fits(a.Name) }
	return len(arms) <= api.MaxFields && !slices.ContainsFunc(arms, isWrong)
}

// fitsQueue says whether the room is one that a channel may have: its Type is a part, asked for itself.
func (shape stmtShape) fitsQueue(s api.Stmt) bool {
	if shape.queue {
		return 1 <= s.Int && s.Int <= api.MaxQueue
	}
	return s.Int == 0 && sameType(s.Type, api.Type{})
}
