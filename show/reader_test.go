package show

import (
	"slices"
	"strconv"
	"strings"

	"weftway/api"
	"weftway/lex"
)

// A reader of texts, to hold the package against: it takes the one form that the chapter says, and any parentheses around an expression beside a sign.

type reader struct {
	tokens []string
	at     int
}

// refused is what the reader panics with.
type refused struct{}

// read is what the text is read as, all of it, if it can be read.
func read[T any](s string, one func(*reader) T) (out T, ok bool) {
	defer func() {
		if x := recover(); x != nil {
			if _, known := x.(refused); !known {
				panic(x)
			}
			var none T
			out, ok = none, false
		}
	}()
	r := &reader{tokens: strings.Split(s, " ")}
	out = one(r)
	r.ask(r.at == len(r.tokens))
	return out, true
}

func readExpr(s string) (api.Expr, bool) {
	return read(s, func(r *reader) api.Expr { return r.expr(0) })
}

func readType(s string) (api.Type, bool) { return read(s, (*reader).typed) }

func readPlace(s string) (api.Place, bool) { return read(s, (*reader).place) }

// readProgram reads an item from each line.
func readProgram(s string) (p api.Program, ok bool) {
	for line := range strings.Lines(s) {
		x, ok := read(strings.TrimSuffix(line, "\n"), (*reader).item)
		if !ok || !strings.HasSuffix(line, "\n") {
			return api.Program{}, false
		}
		p.Items = append(p.Items, x)
	}
	return p, true
}

func (r *reader) ask(ok bool) {
	if !ok {
		panic(refused{})
	}
}

// peek is the token so many further on, "" behind the last one.
func (r *reader) peek(n int) string {
	if r.at+n < len(r.tokens) {
		return r.tokens[r.at+n]
	}
	return ""
}

func (r *reader) next() string {
	s := r.peek(0)
	r.ask(s != "")
	r.at++
	return s
}

func (r *reader) want(tokens ...string) {
	for _, s := range tokens {
		r.ask(r.next() == s)
	}
}

func (r *reader) skip(s string) bool {
	if r.peek(0) != s {
		return false
	}
	r.at++
	return true
}

func (r *reader) name() string {
	s := r.next()
	r.ask(lex.Name(s))
	return s
}

func (r *reader) typeName() string {
	s := r.next()
	r.ask(lex.Type(s))
	return s
}

func (r *reader) number() int64 {
	n, e := strconv.ParseInt(r.peek(0), 10, 64)
	r.ask(e == nil && strconv.FormatInt(n, 10) == r.next())
	return n
}

// readList reads elements with commas between, and the token behind them.
func readList[T any](r *reader, end string, one func() T) []T {
	var out []T
	for !r.skip(end) {
		if len(out) > 0 {
			r.want(",")
		}
		out = append(out, one())
	}
	return out
}

func (r *reader) item() api.Item {
	switch r.next() {
	case "struct":
		x := structure(r.typeName())
		r.want("{")
		x.Fields = readList(r, "}", r.field)
		return x
	case "enum":
		x := enum(r.typeName())
		r.want("{")
		x.Fields = readList(r, "}", r.variant)
		return x
	case "fn":
		x := api.Item{Kind: api.IFn, Name: r.name()}
		r.want("(")
		x.Fields = readList(r, ")", r.field)
		r.want("->")
		x.Result = r.typed()
		r.want("{")
		for r.isStmt() {
			x.Body = append(x.Body, r.statement())
		}
		x.Return = r.expr(0)
		r.want("}")
		return x
	}
	panic(refused{})
}

func (r *reader) field() api.Field {
	f := api.Field{Name: r.name()}
	r.want(":")
	f.Type = r.typed()
	return f
}

func (r *reader) variant() api.Field {
	f := api.Field{Name: r.typeName()}
	if r.skip("(") {
		f.Type = r.typed()
		r.want(")")
	}
	return f
}

func (r *reader) typed() api.Type {
	s := r.next()
	simple := []string{"int", "bool", "unit", "Atomic"}
	outer := []string{"Box", "Cell", "Rc", "Arc", "Mutex", "Sender", "Receiver"}
	if i := slices.Index(simple, s); i >= 0 {
		return mk([]uint8{api.TInt, api.TBool, api.TUnit, api.TAtomic}[i])
	}
	if i := slices.Index(outer, s); i >= 0 {
		r.want("<")
		t := mk([]uint8{api.TBox, api.TCell, api.TRc, api.TArc, api.TMutex, api.TSender, api.TReceiver}[i], r.typed())
		r.want(">")
		return t
	}
	if s == "&" && r.skip("mut") {
		return mk(api.TMut, r.typed())
	}
	if s == "&" {
		return mk(api.TRef, r.typed())
	}
	r.ask(lex.Type(s))
	return named(s)
}

func (r *reader) place() api.Place {
	x := api.Place{Name: r.name()}
	for r.skip(".") {
		if r.skip("*") {
			x.Path = append(x.Path, "*")
		} else {
			x.Path = append(x.Path, r.name())
		}
	}
	return x
}

// isStmt says whether a statement stands here, and not the last expression of a function: what it is, if it can be either, says the token behind the expression.
func (r *reader) isStmt() bool {
	at := r.at
	defer func() { r.at = at }()
	if slices.Contains(strings.Fields("let drop if while match scope spawn lock chan {"), r.peek(0)) {
		return true
	}
	r.expr(0)
	return r.peek(0) != "}"
}

func (r *reader) block() []api.Stmt {
	var out []api.Stmt
	r.want("{")
	for !r.skip("}") {
		out = append(out, r.statement())
	}
	return out
}

func (r *reader) statement() api.Stmt {
	s, ended := r.simple()
	if ended {
		r.want(";")
	}
	return s
}

// simple reads a statement, and tells whether a ; must stand behind it.
func (r *reader) simple() (api.Stmt, bool) {
	switch r.peek(0) {
	case "let":
		r.next()
		return r.let(), true
	case "drop":
		r.next()
		return api.Stmt{Op: api.SDrop, Name: r.name()}, true
	case "chan":
		r.next()
		return r.channel(), true
	case "if", "while", "match", "scope", "spawn", "lock", "{":
		return r.withBlock(), false
	}
	e := r.expr(0)
	if e.Op == api.EUse && r.skip("=") {
		return api.Stmt{Op: api.SAssign, Place: e.Place, Exprs: []api.Expr{r.expr(0)}}, true
	}
	return do(e), true
}

func (r *reader) let() api.Stmt {
	if !lex.Type(r.peek(0)) {
		name := r.name()
		r.want("=")
		return let(name, r.lent())
	}
	s := api.Stmt{Op: api.STake, Name: r.typeName()}
	r.want("{")
	s.Names = readList(r, "}", r.name)
	r.want("=")
	s.Exprs = []api.Expr{r.expr(0)}
	return s
}

func (r *reader) channel() api.Stmt {
	r.want("<")
	t := r.typed()
	r.want(">", "(")
	room := r.number()
	r.want(")", "as")
	s := channel(t, room, r.name(), "")
	r.want(",")
	s.Second = r.name()
	return s
}

func (r *reader) withBlock() api.Stmt {
	switch r.peek(0) {
	case "if":
		r.next()
		s := choose(r.expr(0), r.block(), nil)
		if r.skip("else") {
			s.Else = r.block()
			r.ask(len(s.Else) > 0)
		}
		return s
	case "while":
		r.next()
		return while(r.expr(0), r.block()...)
	case "match":
		r.next()
		return r.match()
	case "scope":
		r.next()
		return scope(r.block()...)
	case "spawn":
		r.next()
		r.want("(")
		names, exprs := r.pairs(")", r.lent)
		return api.Stmt{Op: api.SSpawn, Names: names, Exprs: exprs, Body: r.block()}
	case "lock":
		r.next()
		s := api.Stmt{Op: api.SLock, Place: r.place()}
		r.want("as")
		s.Name, s.Body = r.name(), r.block()
		return s
	}
	return block(r.block()...)
}

func (r *reader) match() api.Stmt {
	s := match(r.name(), "")
	r.want(":")
	s.Second = r.typeName()
	r.want("{")
	for !r.skip("}") {
		a := api.Arm{Variant: r.typeName()}
		if r.skip("(") {
			a.Name = r.name()
			r.want(")")
		}
		r.want("=>")
		a.Body = r.block()
		s.Arms = append(s.Arms, a)
	}
	return s
}

func (r *reader) pairs(end string, one func() api.Expr) (names []string, exprs []api.Expr) {
	exprs = readList(r, end, func() api.Expr {
		names = append(names, r.name())
		r.want("=")
		return one()
	})
	return names, exprs
}

func (r *reader) lent() api.Expr {
	switch {
	case !r.skip("&"):
		return r.expr(0)
	case r.skip("mut"):
		return api.Expr{Op: api.EMut, Place: r.place()}
	}
	return api.Expr{Op: api.EShare, Place: r.place()}
}

// levels are the signs between two sides, from the weakest on; not and the - ahead of one side have a level of their own.
func levels() [][]string {
	return [][]string{{"or"}, {"and"}, nil, {"<", "=="}, {"+", "-"}, {"*", "/", "%"}, nil, nil}
}

func signs() map[string]uint8 {
	return map[string]uint8{"or": api.EOr, "and": api.EAnd, "<": api.ELess, "==": api.EEqual, "+": api.EAdd, "-": api.ESub, "*": api.EMul, "/": api.EDiv, "%": api.EMod}
}

// expr reads one that holds together at least as strongly as the level says.
func (r *reader) expr(level int) api.Expr {
	switch {
	case level == 2 && r.skip("not"):
		return ex(api.ENot, r.expr(2))
	case level == 6 && r.skip("-"):
		return ex(api.ENeg, r.expr(6))
	case level == 7:
		return r.alone()
	}
	e := r.expr(level + 1)
	for slices.Contains(levels()[level], r.peek(0)) {
		e = ex(signs()[r.next()], e, r.expr(level+1))
		if level == 3 { // what has been compared isn't compared again
			break
		}
	}
	return e
}

func (r *reader) alone() api.Expr {
	s := r.peek(0)
	switch {
	case r.skip("("):
		if r.skip(")") {
			return ex(api.EUnit)
		}
		e := r.expr(0)
		r.want(")")
		return e
	case s == "true" || s == "false":
		return api.Expr{Op: api.EBool, Int: int64(len("false") - len(r.next()))}
	case lex.Name(s) && r.peek(1) == "(":
		e := call(r.name())
		r.want("(")
		e.Args = readList(r, ")", r.lent)
		return e
	case lex.Name(s):
		return api.Expr{Op: api.EUse, Place: r.place()}
	case lex.Type(s) && r.peek(1) == "{":
		e := made(r.typeName(), "")
		r.want("{")
		e.Place.Path, e.Args = r.pairs("}", func() api.Expr { return r.expr(0) })
		return e
	case lex.Type(s):
		return r.variantExpr()
	case lex.Word(s):
		return r.worded()
	}
	return number(r.number())
}

func (r *reader) variantExpr() api.Expr {
	e := variant(r.typeName(), "")
	r.want(".")
	e.Second = r.typeName()
	if r.skip("(") {
		e.Args = []api.Expr{r.expr(0)}
		r.want(")")
	}
	return e
}

func (r *reader) worded() api.Expr {
	ofExpr := map[string]uint8{"box": api.EBox, "unbox": api.EUnbox, "cell": api.ECell, "rc": api.ERc, "arc": api.EArc, "mutex": api.EMutex, "open": api.EOpen, "atomic": api.EAtomic}
	ofPlace := map[string]uint8{"get": api.EGet, "clone": api.EClone, "load": api.ELoad, "recv": api.ERecv}
	ofBoth := map[string]uint8{"set": api.ESet, "store": api.EStore, "fetch": api.EFetch, "send": api.ESend}
	s := r.next()
	e := api.Expr{Op: max(ofExpr[s], ofPlace[s], ofBoth[s])}
	r.ask(e.Op != 0)
	r.want("(")
	if ofExpr[s] == 0 {
		e.Place = r.place()
	}
	if ofBoth[s] != 0 {
		r.want(",")
	}
	if ofPlace[s] == 0 {
		e.Args = []api.Expr{r.expr(0)}
	}
	r.want(")")
	return e
}
