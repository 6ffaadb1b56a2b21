package parse

import (
	"strconv"
	"strings"

	"weftway/api"
	"weftway/lex"
)

// scribe writes programs as texts, with blanks, remarks, noughts and parentheses thrown in, and notes as it writes where each thing must be said to stand.
type scribe struct {
	d    *dice
	text strings.Builder
	last string
	// How much is thrown in: of so many chances one.
	rare int
}

func (w *scribe) chance() bool { return w.d.below(w.rare) == 0 }

// put writes tokens, and tells where the first one stands.
func (w *scribe) put(tokens ...string) int {
	first := -1
	for _, s := range tokens {
		w.between(s)
		if first < 0 {
			first = w.text.Len()
		}
		w.text.WriteString(s)
		w.last = s
	}
	return first
}

// between writes what may stand ahead of a token: nothing, where it would still be one.
func (w *scribe) between(token string) {
	alone := func() bool {
		l, _, e := lex.All(w.last + token)
		return e == api.OK && len(l) == 2 && l[0].Text == w.last
	}
	if w.last != "" && w.chance() && alone() {
		return
	}
	w.text.WriteString([]string{" ", "\n", "\t ", "\r\n"}[w.d.below(4)])
	if w.chance() {
		w.text.WriteString([]string{"//\n", "// so } ; $\n", "/// \xff ' 0\r\n\n"}[w.d.below(3)])
	}
}

// list writes things with commas between.
func (w *scribe) list(n int, one func(i int)) {
	for i := range n {
		if i > 0 {
			w.put(",")
		}
		one(i)
	}
}

func (w *scribe) typed(t api.Type) {
	outer := map[uint8]string{api.TBox: "Box", api.TCell: "Cell", api.TRc: "Rc", api.TArc: "Arc", api.TMutex: "Mutex", api.TSender: "Sender", api.TReceiver: "Receiver"}
	alone := map[uint8]string{api.TInt: "int", api.TBool: "bool", api.TUnit: "unit", api.TAtomic: "Atomic", api.TNamed: t.Name}
	switch {
	case alone[t.Kind] != "":
		w.put(alone[t.Kind])
	case t.Kind == api.TRef:
		w.put("&")
		w.typed(t.Args[0])
	case t.Kind == api.TMut:
		w.put("&", "mut")
		w.typed(t.Args[0])
	default:
		w.put(outer[t.Kind], "<")
		w.typed(t.Args[0])
		w.put(">")
	}
}

func (w *scribe) place(x api.Place) int {
	first := w.put(x.Name)
	for _, s := range x.Path {
		w.put(".", s)
	}
	return first
}

// level is how strongly a kind of expression holds together, by the chapter's row.
func level(op uint8) int {
	for i, row := range [][]uint8{{api.EOr}, {api.EAnd}, {api.ENot}, {api.ELess, api.EEqual}, {api.EAdd, api.ESub}, {api.EMul, api.EDiv, api.EMod}, {api.ENeg}} {
		if strings.Contains(string(row), string([]uint8{op})) {
			return i
		}
	}
	return 7
}

func wordOrSign(op uint8) string {
	return map[uint8]string{api.ENeg: "-", api.ENot: "not", api.EAdd: "+", api.ESub: "-", api.EMul: "*", api.EDiv: "/", api.EMod: "%", api.ELess: "<", api.EEqual: "==", api.EAnd: "and", api.EOr: "or", api.EBox: "box", api.EUnbox: "unbox", api.ECell: "cell", api.EGet: "get", api.ESet: "set", api.ERc: "rc", api.EArc: "arc", api.EClone: "clone", api.EMutex: "mutex", api.EOpen: "open", api.EAtomic: "atomic", api.ELoad: "load", api.EStore: "store", api.EFetch: "fetch", api.ESend: "send", api.ERecv: "recv"}[op]
}

// side writes an expression that must hold together so strongly: in parentheses, if it doesn't, and now and then if it does. It tells where what it wrote begins, the parentheses being part of it, and notes the At.
func (w *scribe) side(e *api.Expr, must int) int {
	n := 0
	if level(e.Op) < must {
		n = 1
	}
	for w.chance() && w.chance() {
		n++
	}
	if n == 0 {
		return w.expr(e)
	}
	first := w.put(strings.Fields(strings.Repeat("( ", n))...)
	w.expr(e)
	w.put(strings.Fields(strings.Repeat(") ", n))...)
	return first
}

// expr writes an expression, notes its At, and tells where it begins.
func (w *scribe) expr(e *api.Expr) int {
	if e.Op == api.ENeg || e.Op == api.ENot {
		e.At = w.put(wordOrSign(e.Op))
		w.side(&e.Args[0], level(e.Op))
		return e.At
	}
	if formOf(e.Op) == "2" {
		left := level(e.Op)
		if e.Op == api.ELess || e.Op == api.EEqual {
			left++
		}
		first := w.side(&e.Args[0], left)
		e.At = w.put(wordOrSign(e.Op))
		w.side(&e.Args[1], level(e.Op)+1)
		return first
	}
	e.At = w.alone(e)
	return e.At
}

// alone writes an expression without signs, and tells where it begins.
func (w *scribe) alone(e *api.Expr) int {
	switch e.Op {
	case api.EInt:
		return w.put(w.number(e.Int))
	case api.EBool:
		return w.put([]string{"false", "true"}[e.Int])
	case api.EUnit:
		return w.put("(", ")")
	case api.EUse:
		return w.place(e.Place)
	case api.ECall:
		first := w.put(e.Name, "(")
		w.list(len(e.Args), func(i int) { w.lent(&e.Args[i]) })
		w.put(")")
		return first
	case api.EStruct:
		first := w.put(e.Name, "{")
		w.list(len(e.Args), func(i int) {
			w.put(e.Place.Path[i], "=")
			w.side(&e.Args[i], 0)
		})
		w.put("}")
		return first
	case api.EEnum:
		first := w.put(e.Name, ".", e.Second)
		if len(e.Args) > 0 {
			w.put("(")
			w.side(&e.Args[0], 0)
			w.put(")")
		}
		return first
	}
	first := w.put(wordOrSign(e.Op), "(")
	if e.Place.Name != "" {
		w.place(e.Place)
	}
	if e.Place.Name != "" && len(e.Args) > 0 {
		w.put(",")
	}
	if len(e.Args) > 0 {
		w.side(&e.Args[0], 0)
	}
	w.put(")")
	return first
}

func (w *scribe) number(n int64) string {
	noughts := ""
	for w.chance() {
		noughts += "0"
	}
	return noughts + strconv.FormatInt(n, 10)
}

func (w *scribe) lent(e *api.Expr) {
	switch e.Op {
	case api.EShare:
		e.At = w.put("&")
		w.place(e.Place)
	case api.EMut:
		e.At = w.put("&", "mut")
		w.place(e.Place)
	default:
		w.side(e, 0)
	}
}

// block writes statements between braces, and tells where the first brace stands.
func (w *scribe) block(l []api.Stmt) int {
	first := w.put("{")
	for i := range l {
		w.statement(&l[i])
	}
	w.put("}")
	return first
}

func (w *scribe) statement(s *api.Stmt) {
	switch s.Op {
	case api.SLet:
		s.At = w.put("let", s.Name, "=")
		w.lent(&s.Exprs[0])
		w.put(";")
	case api.STake:
		s.At = w.put("let", s.Name, "{")
		w.list(len(s.Names), func(i int) { w.put(s.Names[i]) })
		w.put("}", "=")
		w.side(&s.Exprs[0], 0)
		w.put(";")
	case api.SAssign:
		s.At = w.place(s.Place)
		w.put("=")
		w.side(&s.Exprs[0], 0)
		w.put(";")
	case api.SDo:
		s.At = w.side(&s.Exprs[0], 0)
		w.put(";")
	case api.SDrop:
		s.At = w.put("drop", s.Name, ";")
	case api.SChan:
		s.At = w.put("chan", "<")
		w.typed(s.Type)
		w.put(">", "(", w.number(s.Int), ")", "as", s.Name, ",", s.Second, ";")
	default:
		w.withBlock(s)
	}
}

func (w *scribe) withBlock(s *api.Stmt) {
	switch s.Op {
	case api.SIf:
		s.At = w.put("if")
		w.side(&s.Exprs[0], 0)
		w.block(s.Body)
		if len(s.Else) > 0 || w.chance() {
			w.put("else")
			w.block(s.Else)
		}
	case api.SWhile:
		s.At = w.put("while")
		w.side(&s.Exprs[0], 0)
		w.block(s.Body)
	case api.SMatch:
		s.At = w.put("match", s.Name, ":", s.Second, "{")
		for _, a := range s.Arms {
			w.put(a.Variant)
			if a.Name != "" {
				w.put("(", a.Name, ")")
			}
			w.put("=>")
			w.block(a.Body)
		}
		w.put("}")
	case api.SScope:
		s.At = w.put("scope")
		w.block(s.Body)
	case api.SSpawn:
		s.At = w.put("spawn", "(")
		w.list(len(s.Names), func(i int) {
			w.put(s.Names[i], "=")
			w.lent(&s.Exprs[i])
		})
		w.put(")")
		w.block(s.Body)
	case api.SLock:
		s.At = w.put("lock")
		w.place(s.Place)
		w.put("as", s.Name)
		w.block(s.Body)
	default:
		s.At = w.block(s.Body)
	}
}

func (w *scribe) item(x *api.Item) {
	one := func(i int) {
		w.put(x.Fields[i].Name, ":")
		w.typed(x.Fields[i].Type)
	}
	switch x.Kind {
	case api.IStruct:
		x.At = w.put("struct", x.Name, "{")
		w.list(len(x.Fields), one)
		w.put("}")
	case api.IEnum:
		x.At = w.put("enum", x.Name, "{")
		w.list(len(x.Fields), func(i int) {
			w.put(x.Fields[i].Name)
			if x.Fields[i].Type.Kind != 0 {
				w.put("(")
				w.typed(x.Fields[i].Type)
				w.put(")")
			}
		})
		w.put("}")
	case api.IFn:
		x.At = w.put("fn", x.Name, "(")
		w.list(len(x.Fields), one)
		w.put(")", "->")
		w.typed(x.Result)
		w.put("{")
		for i := range x.Body {
			w.statement(&x.Body[i])
		}
		w.side(&x.Return, 0)
		w.put("}")
	}
}

// written is the program's text, with as much thrown in as rare says; the program's Ats are noted in it.
func written(d *dice, p api.Program, rare int) string {
	w := scribe{d: d, rare: rare}
	for i := range p.Items {
		w.item(&p.Items[i])
	}
	w.text.WriteString([]string{"", " ", "\n", "// the end"}[d.below(4)])
	return w.text.String()
}
