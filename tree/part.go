package tree

import "weftway/api"

// part is a thing that a tree is made of: the program, an item, a statement, an expression or a type.
type part interface {
	// has goes through the parts that it has at once, those of fields that don't count for its kind too: how deep and how large a tree is, is asked of trees that aren't whole, too.
	has(yield func(part) bool)
	// weight is 1 of what counts for how large a tree is, else 0.
	weight() int
	// fits says whether it may be, as far as its parts don't matter.
	fits() bool
}

// standing says what may stand somewhere in a tree.
type standing uint8

const (
	wholeOne standing = iota // what is whole
	lentToo                  // what is whole, or lent
	zeroToo                  // what is whole, or zero
	zeroOnly                 // what is zero
)

type (
	program    struct{ *api.Program }
	item       struct{ *api.Item }
	statement  struct{ *api.Stmt }
	expression struct {
		*api.Expr
		stands standing
	}
	typed struct {
		*api.Type
		stands standing
	}
)

func depth(x part) int {
	deepest := 0
	for y := range x.has {
		deepest = max(deepest, depth(y))
	}
	return 1 + deepest
}

func size(x part) int {
	n := x.weight()
	for y := range x.has {
		n += size(y)
	}
	return n
}

// whole says whether x and all its parts may be, and it is at most levels deep.
func whole(x part, levels int) bool {
	if levels == 0 || !x.fits() {
		return false
	}
	for y := range x.has {
		if !whole(y, levels-1) {
			return false
		}
	}
	return true
}

func (p program) weight() int   { return 0 }
func (x item) weight() int      { return 1 }
func (s statement) weight() int { return 1 }
func (t typed) weight() int     { return 0 }

// What stands where only zero may is no expression that is there: the Return of an item that is no function.
func (e expression) weight() int {
	if e.stands == zeroOnly {
		return 0
	}
	return 1
}

func (p program) has(yield func(part) bool) {
	for i := range p.Items {
		if !yield(item{&p.Items[i]}) {
			return
		}
	}
}

func (x item) has(yield func(part) bool) {
	shape := itemShapeOf(x.Kind)
	for i := range x.Fields {
		if !yield(typed{&x.Fields[i].Type, shape.fields}) {
			return
		}
	}
	// An item that is no function has these too, zero as they are then: each is a level, none an expression.
	_ = yield(typed{&x.Result, shape.rest}) &&
		yieldStmts(x.Body, yield) &&
		yield(expression{&x.Return, shape.rest})
}

func (s statement) has(yield func(part) bool) {
	if s.Op == api.SChan && !yield(typed{&s.Type, wholeOne}) {
		return
	}
	if !yieldExprs(s.Exprs, s.inExprs(), yield) || !yieldStmts(s.Body, yield) || !yieldStmts(s.Else, yield) {
		return
	}
	for _, arm := range s.Arms {
		if !yieldStmts(arm.Body, yield) {
			return
		}
	}
}

func (e expression) has(yield func(part) bool) {
	yieldExprs(e.Args, e.inArgs(), yield)
}

func (t typed) has(yield func(part) bool) {
	for i := range t.Args {
		if !yield(typed{&t.Args[i], wholeOne}) {
			return
		}
	}
}

// yieldExprs hands on one expression after the other, and tells whether more is wanted.
func yieldExprs(list []api.Expr, stands standing, yield func(part) bool) bool {
	for i := range list {
		if !yield(expression{&list[i], stands}) {
			return false
		}
	}
	return true
}

// yieldStmts hands on one statement after the other, and tells whether more is wanted.
func yieldStmts(list []api.Stmt, yield func(part) bool) bool {
	for i := range list {
		if !yield(statement{&list[i]}) {
			return false
		}
	}
	return true
}

// inExprs says what may stand in the statement's Exprs.
func (s statement) inExprs() standing {
	if s.Op == api.SLet || s.Op == api.SSpawn {
		return lentToo
	}
	return wholeOne
}

// inArgs says what may stand in the expression's Args.
func (e expression) inArgs() standing {
	switch {
	case e.stands == zeroOnly:
		return zeroOnly
	case e.Op == api.ECall:
		return lentToo
	}
	return wholeOne
}
