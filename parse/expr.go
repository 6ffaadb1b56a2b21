package parse

import (
	"weftway/api"
	"weftway/lex"
	"weftway/num"
)

// lentOrNot reads an expression where one may be lent, too.
func (r *reader) lentOrNot() api.Expr {
	if !r.is("&") {
		return r.expr(ofOr)
	}
	e := api.Expr{Op: api.EShare, At: r.next().At}
	if r.may("mut") {
		e.Op = api.EMut
	}
	e.Place = r.place()
	return e
}

// expr reads what holds together at least as strongly as least.
func (r *reader) expr(least strength) api.Expr {
	left, held := r.ahead(least)
	for {
		op := betweenOf(r.now().Text)
		own := strengthOf(op)
		// A sign that may not stand here is left to whoever has to go on behind the expression.
		if op == 0 || own < least || held < leftOf(own) {
			return left
		}
		at := r.next().At
		left = api.Expr{Op: op, Args: []api.Expr{left, r.expr(own + 1)}, At: at}
		held = own
	}
}

// ahead reads up to the first sign between two sides, and tells how strongly that holds together.
func (r *reader) ahead(least strength) (api.Expr, strength) {
	op := aheadOf(r.now().Text)
	own := strengthOf(op)
	if op == 0 || own < least {
		return r.single(), ofOthers
	}
	at := r.next().At
	return api.Expr{Op: op, Args: []api.Expr{r.expr(own)}, At: at}, own
}

// single reads an expression without signs but in parentheses.
func (r *reader) single() api.Expr {
	t := r.now()
	if r.may("(") {
		return r.inParentheses(t.At)
	}
	e := r.bare()
	e.At = t.At
	return e
}

// inParentheses reads what stands behind the `(` at that place.
func (r *reader) inParentheses(at int) api.Expr {
	if r.may(")") {
		return api.Expr{Op: api.EUnit, At: at}
	}
	e := r.expr(ofOr)
	r.must(")")
	return e
}

// bare reads an expression that begins neither with a sign nor with a parenthesis.
func (r *reader) bare() api.Expr {
	switch r.now().Kind {
	case lex.TNumber:
		return api.Expr{Op: api.EInt, Int: r.number()}
	case lex.TName:
		return r.named()
	case lex.TType:
		return r.made()
	}
	if r.may("true") {
		return api.Expr{Op: api.EBool, Int: 1}
	}
	if r.may("false") {
		return api.Expr{Op: api.EBool}
	}
	return r.worded()
}

func (r *reader) number() int64 {
	// A number that can't be is none of the tokens.
	n, _ := num.Parse(r.kind(lex.TNumber))
	return n
}

// named reads a call, or a place.
func (r *reader) named() api.Expr {
	x := api.Place{Name: r.name()}
	if r.may("(") {
		return api.Expr{Op: api.ECall, Name: x.Name, Args: list(r, ")", r.lentOrNot)}
	}
	x.Path = r.steps()
	return api.Expr{Op: api.EUse, Place: x}
}

func (r *reader) place() api.Place { return api.Place{Name: r.name(), Path: r.steps()} }

func (r *reader) steps() []string {
	var path []string
	for r.may(".") {
		if r.is("*") {
			path = append(path, r.next().Text)
		} else {
			path = append(path, r.name())
		}
	}
	return path
}

// made reads a struct, or an enum.
func (r *reader) made() api.Expr {
	e := api.Expr{Name: r.typeName()}
	if r.may("{") {
		e.Op = api.EStruct
		e.Place.Path, e.Args = r.pairs("}", func() api.Expr { return r.expr(ofOr) })
		return e
	}
	r.must(".")
	e.Op, e.Second = api.EEnum, r.typeName()
	if r.may("(") {
		e.Args = []api.Expr{r.expr(ofOr)}
		r.must(")")
	}
	return e
}

// worded reads a word, and in parentheses the place and the expression that it is asked of: either, or both.
func (r *reader) worded() api.Expr {
	op, of := wordOf(r.now().Text)
	if op == 0 {
		r.fail()
		return api.Expr{}
	}
	e := api.Expr{Op: op}
	r.next()
	r.must("(")
	if of != anExpr {
		e.Place = r.place()
	}
	if of == both {
		r.must(",")
	}
	if of != aPlace {
		e.Args = []api.Expr{r.expr(ofOr)}
	}
	r.must(")")
	return e
}
