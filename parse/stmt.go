package parse

import (
	"weftway/api"
	"weftway/lex"
)

// makeStatements makes the table of what each first word, or sign, of a statement begins.
func (r *reader) makeStatements() map[string]func() api.Stmt {
	return map[string]func() api.Stmt{
		"let":   r.let,
		"drop":  r.drop,
		"if":    r.choose,
		"while": r.while,
		"match": r.match,
		"scope": r.scope,
		"spawn": r.spawn,
		"lock":  r.lock,
		"chan":  r.channel,
		"{":     r.inner,
	}
}

// block reads statements between braces.
func (r *reader) block() []api.Stmt {
	var all []api.Stmt
	r.must("{")
	for !r.atEnd() && !r.is("}") {
		s := r.statement()
		if s.Op == api.SDo {
			r.must(";")
		}
		all = append(all, s)
	}
	r.must("}")
	return all
}

// body reads a function's statements, and behind them the expression that is its result.
func (r *reader) body() ([]api.Stmt, api.Expr) {
	var all []api.Stmt
	r.must("{")
	for !r.failed {
		s := r.statement()
		if s.Op == api.SDo && r.may("}") {
			return all, s.Exprs[0]
		}
		if s.Op == api.SDo {
			r.must(";")
		}
		all = append(all, s)
	}
	return nil, api.Expr{}
}

// statement reads one; of an expression it leaves the `;`: without one it is a function's result.
func (r *reader) statement() api.Stmt {
	t := r.now()
	read, known := r.statements[t.Text]
	if !known {
		read = r.plain
	}
	s := read()
	s.At = t.At
	return s
}

// plain reads a statement that no word begins: an assignment, or an expression.
func (r *reader) plain() api.Stmt {
	// A name that comes out as a place is no more than this place: there are no parentheses around it.
	named := r.now().Kind == lex.TName
	e := r.expr(ofOr)
	if !named || e.Op != api.EUse || !r.may("=") {
		return api.Stmt{Op: api.SDo, Exprs: []api.Expr{e}}
	}
	s := api.Stmt{Op: api.SAssign, Place: e.Place, Exprs: []api.Expr{r.expr(ofOr)}}
	r.must(";")
	return s
}

func (r *reader) let() api.Stmt {
	r.must("let")
	if r.now().Kind == lex.TType {
		return r.take()
	}
	s := api.Stmt{Op: api.SLet, Name: r.name()}
	r.must("=")
	s.Exprs = []api.Expr{r.lentOrNot()}
	r.must(";")
	return s
}

// take reads what stands behind the `let` of one that takes a struct apart.
func (r *reader) take() api.Stmt {
	s := api.Stmt{Op: api.STake, Name: r.typeName()}
	r.must("{")
	s.Names = list(r, "}", r.name)
	r.must("=")
	s.Exprs = []api.Expr{r.expr(ofOr)}
	r.must(";")
	return s
}

func (r *reader) drop() api.Stmt {
	r.must("drop")
	s := api.Stmt{Op: api.SDrop, Name: r.name()}
	r.must(";")
	return s
}

func (r *reader) choose() api.Stmt {
	r.must("if")
	s := api.Stmt{Op: api.SIf, Exprs: []api.Expr{r.expr(ofOr)}, Body: r.block()}
	if r.may("else") {
		s.Else = r.block()
	}
	return s
}

func (r *reader) while() api.Stmt {
	r.must("while")
	return api.Stmt{Op: api.SWhile, Exprs: []api.Expr{r.expr(ofOr)}, Body: r.block()}
}

func (r *reader) match() api.Stmt {
	r.must("match")
	s := api.Stmt{Op: api.SMatch, Name: r.name()}
	r.must(":")
	s.Second = r.typeName()
	r.must("{")
	for !r.atEnd() && !r.is("}") {
		s.Arms = append(s.Arms, r.arm())
	}
	r.must("}")
	r.atMost(api.MaxFields, len(s.Arms))
	return s
}

func (r *reader) arm() api.Arm {
	a := api.Arm{Variant: r.typeName()}
	if r.may("(") {
		a.Name = r.name()
		r.must(")")
	}
	r.must("=>")
	a.Body = r.block()
	return a
}

func (r *reader) scope() api.Stmt {
	r.must("scope")
	return api.Stmt{Op: api.SScope, Body: r.block()}
}

func (r *reader) spawn() api.Stmt {
	r.must("spawn", "(")
	s := api.Stmt{Op: api.SSpawn}
	s.Names, s.Exprs = r.pairs(")", r.lentOrNot)
	s.Body = r.block()
	return s
}

func (r *reader) lock() api.Stmt {
	r.must("lock")
	s := api.Stmt{Op: api.SLock, Place: r.place()}
	r.must("as")
	s.Name = r.name()
	s.Body = r.block()
	return s
}

func (r *reader) channel() api.Stmt {
	r.must("chan", "<")
	s := api.Stmt{Op: api.SChan, Type: r.typed()}
	r.must(">", "(")
	s.Int = r.number()
	r.full = r.full || s.Int < 1 || s.Int > api.MaxQueue
	r.must(")", "as")
	s.Name = r.name()
	r.must(",")
	s.Second = r.name()
	r.must(";")
	return s
}

func (r *reader) inner() api.Stmt { return api.Stmt{Op: api.SBlock, Body: r.block()} }
