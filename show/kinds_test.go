package show

import (
	"math"
	"strings"
	"testing"

	"weftway/api"
)

func checkType(t *testing.T, x api.Type, want string) {
	t.Helper()
	if got := Type(x); got != want {
		t.Errorf("%.300q, want %.300q", got, want)
	}
}

func checkExpr(t *testing.T, e api.Expr, want string) {
	t.Helper()
	if got := Expr(e); got != want {
		t.Errorf("%.300q, want %.300q", got, want)
	}
}

func checkProgram(t *testing.T, p api.Program, want string) {
	t.Helper()
	if got := Program(p); got != want {
		t.Errorf("%.300q, want %.300q", got, want)
	}
}

// checkStmt asks for the text of main with that statement alone.
func checkStmt(t *testing.T, s api.Stmt, want string) {
	t.Helper()
	checkProgram(t, main(s), "fn main ( ) -> int { "+want+" 0 }\n")
}

// The rows of the chapter's examples.
func TestExamples(t *testing.T) {
	a, b, one := use("a"), use("b"), number(1)
	checkProgram(t, main(), "fn main ( ) -> int { 0 }\n")
	checkExpr(t, ex(api.ESub, a, ex(api.ESub, b, one)), "a - ( b - 1 )")
	checkExpr(t, ex(api.ESub, ex(api.ESub, a, b), one), "a - b - 1")
	checkExpr(t, ex(api.ENot, ex(api.EEqual, a, b)), "not a == b")
	checkExpr(t, ex(api.EEqual, ex(api.ENot, a), b), "( not a ) == b")
	checkExpr(t, ex(api.ENeg, ex(api.ENeg, one)), "- - 1")
	checkExpr(t, ex(api.ELess, ex(api.ELess, a, b), use("c")), "( a < b ) < c")
	checkType(t, mk(api.TBox, mk(api.TMut, mk(api.TInt))), "Box < & mut int >")
	if got := Place(place("x.a.*")); got != "x . a . *" {
		t.Errorf("%q", got)
	}
	checkStmt(t, channel(mk(api.TInt), 2, "s", "r"), "chan < int > ( 2 ) as s , r ;")
}

// P4.2: each kind of a type.
func TestTypes(t *testing.T) {
	inner := map[string]api.Type{"int": mk(api.TInt), "bool": mk(api.TBool), "unit": mk(api.TUnit), "Atomic": mk(api.TAtomic), "S": named("S"), "Box9_z": named("Box9_z")}
	outer := map[string]uint8{"Box": api.TBox, "Cell": api.TCell, "Rc": api.TRc, "Arc": api.TArc, "Mutex": api.TMutex, "Sender": api.TSender, "Receiver": api.TReceiver}
	for x, one := range inner {
		checkType(t, one, x)
		checkType(t, mk(api.TRef, one), "& "+x)
		checkType(t, mk(api.TMut, one), "& mut "+x)
		checkType(t, mk(api.TRef, mk(api.TMut, mk(api.TRef, one))), "& & mut & "+x)
		for y, kind := range outer {
			checkType(t, mk(kind, one), y+" < "+x+" >")
			checkType(t, mk(api.TMut, mk(kind, mk(kind, one))), "& mut "+y+" < "+y+" < "+x+" > >")
			checkType(t, mk(kind, mk(api.TRef, one)), y+" < & "+x+" >")
		}
	}
}

// P4.2: types that are no types, and the deepest ones.
func TestTypesThatArent(t *testing.T) {
	for _, x := range []api.Type{{}, {Kind: 15}, {Kind: 255}, mk(api.TBox), mk(api.TRef), mk(api.TNamed), named("s"), named("Box"), named(""), {Kind: api.TInt, Name: "S"}, mk(api.TInt, mk(api.TInt)), mk(api.TAtomic, mk(api.TInt)), mk(api.TBox, mk(api.TInt), mk(api.TInt)), mk(api.TBox, api.Type{}), mk(api.TMut, mk(api.TCell))} {
		checkType(t, x, "")
	}
	box := func(x api.Type) api.Type { return mk(api.TBox, x) }
	checkType(t, nested(api.MaxDeep-1, mk(api.TInt), box), strings.Repeat("Box < ", 39)+"int"+strings.Repeat(" >", 39))
	checkType(t, nested(api.MaxDeep, mk(api.TInt), box), "")
}

// P4.2: places, the longest ones, and what is none.
func TestPlaces(t *testing.T) {
	for s, want := range map[string]string{"x": "x", "x.*": "x . *", "x.*.*": "x . * . *", "longname_12.a.b": "longname_12 . a . b", "": "", "X": "", "x.": "", "x.X": "", "x.let": "", "let": "", "*": "", "x.**": "", "x.a b": ""} {
		if got := Place(place(s)); got != want {
			t.Errorf("%q: %q, want %q", s, got, want)
		}
	}
	if got := Place(steps(api.MaxDeep)); got != "x"+strings.Repeat(" . * . a", 20) {
		t.Errorf("%q", got)
	}
	if got := Place(steps(api.MaxDeep + 1)); got != "" {
		t.Errorf("%q", got)
	}
}

// P4.2: each kind of an expression but those with signs.
func TestExprs(t *testing.T) {
	a, one := use("a"), number(1)
	for want, e := range map[string]api.Expr{
		"0": number(0), "42": number(42), "9223372036854775807": number(math.MaxInt64),
		"true": {Op: api.EBool, Int: 1}, "false": {Op: api.EBool}, "( )": ex(api.EUnit),
		"x": use("x"), "x . a . *": use("x.a.*"),
		"f ( )": call("f"), "f ( 1 )": call("f", one), "f ( a , 1 , g ( ) )": call("f", a, one, call("g")),
		"f ( & x . * , & mut y , a )": call("f", at(api.EShare, "x.*"), at(api.EMut, "y"), a),
		"f ( f ( & x ) )":             call("f", call("f", at(api.EShare, "x"))),
		"S { }":                       made("S", ""), "S { p = 1 }": made("S", "p", one), "S { q = 1 , p = S { } , p = a }": made("S", "q p p", one, made("S", ""), a),
		"E . A": variant("E", "A"), "E . A ( 1 )": variant("E", "A", one), "E . A ( E . B )": variant("E", "A", variant("E", "B")), "E . A ( ( ) )": variant("E", "A", ex(api.EUnit)),
	} {
		checkExpr(t, e, want)
	}
	for word, op := range map[string]uint8{"box": api.EBox, "unbox": api.EUnbox, "cell": api.ECell, "rc": api.ERc, "arc": api.EArc, "mutex": api.EMutex, "open": api.EOpen, "atomic": api.EAtomic} {
		checkExpr(t, ex(op, a), word+" ( a )")
		checkExpr(t, ex(op, ex(op, ex(api.EOr, a, a))), word+" ( "+word+" ( a or a ) )")
	}
	for word, op := range map[string]uint8{"get": api.EGet, "clone": api.EClone, "load": api.ELoad, "recv": api.ERecv} {
		checkExpr(t, at(op, "x"), word+" ( x )")
		checkExpr(t, at(op, "x.*.a"), word+" ( x . * . a )")
	}
	for word, op := range map[string]uint8{"set": api.ESet, "store": api.EStore, "fetch": api.EFetch, "send": api.ESend} {
		checkExpr(t, at(op, "x", a), word+" ( x , a )")
		checkExpr(t, at(op, "x.*.a", at(op, "y", one)), word+" ( x . * . a , "+word+" ( y , 1 ) )")
	}
}

// P4.2: expressions that are none, those that are lent, and the deepest ones.
func TestExprsThatArent(t *testing.T) {
	one := number(1)
	for _, e := range []api.Expr{
		{}, {Op: 37}, {Op: 255}, at(api.EShare, "x"), at(api.EMut, "x.*"), number(-1), number(math.MinInt64), {Op: api.EBool, Int: 2},
		ex(api.EUse), use("X"), ex(api.ENeg), ex(api.ENeg, one, one), ex(api.EAdd, one), ex(api.EAdd, one, one, one), ex(api.ENot, at(api.EShare, "x")),
		ex(api.EBox), ex(api.EBox, at(api.EMut, "x")), ex(api.EGet), at(api.EGet, "x", one), at(api.ESet, "x"), ex(api.ESend, one),
		call("F"), call("f", one, one, one, one, one, one, one), call("f", api.Expr{}), made("s", ""), made("S", "a"), made("S", "a", one, one), made("S", "A", one),
		variant("E", "a"), variant("e", "A"), variant("E", "A", one, one), variant("E", "A", at(api.EShare, "x")), {Op: api.EInt, Name: "x"}, {Op: api.EUnit, Second: "X"},
	} {
		if got := Expr(e); got != "" {
			t.Errorf("%q", got)
		}
		checkProgram(t, main(do(e)), "")
	}
	minus := func(e api.Expr) api.Expr { return ex(api.ENeg, e) }
	checkExpr(t, nested(api.MaxDeep-1, one, minus), strings.Repeat("- ", 39)+"1")
	checkExpr(t, nested(api.MaxDeep, one, minus), "")
	inside := func(e api.Expr) api.Expr { return ex(api.EMul, e, ex(api.EAdd, e, one)) }
	if got := Expr(nested(4, one, inside)); strings.Count(got, "*") != 15 || strings.Count(got, "1") != 31 {
		t.Errorf("%q", got)
	}
}

// P4.1: each kind of a statement.
func TestStmts(t *testing.T) {
	a, one := use("a"), number(1)
	body := []api.Stmt{do(a)}
	lent := []api.Expr{at(api.EShare, "x"), at(api.EMut, "y.*"), one, call("f")}
	for want, s := range map[string]api.Stmt{
		"let x = 1 ;": let("x", one), "let r = & x . * ;": let("r", at(api.EShare, "x.*")), "let r = & mut x ;": let("r", at(api.EMut, "x")),
		"let S { } = a ;": take("S", "", a), "let S { b } = a ;": take("S", "b", a), "let S { b , c , d } = f ( ) ;": take("S", "b c d", call("f")),
		"x = a ;": assign("x", a), "x . * . a = 1 + a ;": assign("x.*.a", ex(api.EAdd, one, a)),
		"1 ;": do(one), "( ) ;": do(ex(api.EUnit)), "- a ;": do(ex(api.ENeg, a)), "S { } ;": do(made("S", "")), "drop x ;": {Op: api.SDrop, Name: "x"},
		"if a { a ; } else { a ; }": choose(a, body, body), "if a { a ; }": choose(a, body, nil), "if a { } else { a ; }": choose(a, nil, body),
		"if a { }": choose(a, []api.Stmt{}, []api.Stmt{}), "if a { } else { if a { } }": choose(a, nil, []api.Stmt{choose(a, nil, nil)}),
		"if S { a = 1 } { }": choose(made("S", "a", one), nil, nil), "while a { a ; a ; }": while(a, do(a), do(a)), "while 1 < a { }": while(ex(api.ELess, one, a)),
		"match e : E { }":          match("e", "E"),
		"match e : E { A => { } }": match("e", "E", api.Arm{Variant: "A"}),
		"match e : E { A => { a ; } B ( y ) => { } C => { } }": match("e", "E", api.Arm{Variant: "A", Body: body}, api.Arm{Variant: "B", Name: "y"}, api.Arm{Variant: "C"}),
		"scope { }": scope(), "scope { a ; { } }": scope(do(a), block()), "{ }": block(), "{ a ; { a ; } }": block(do(a), block(do(a))),
		"spawn ( ) { }": spawn("", nil), "spawn ( p = 1 ) { a ; }": spawn("p", []api.Expr{one}, do(a)),
		"spawn ( p = & x , q = & mut y . * , r = 1 , s = f ( ) ) { }": spawn("p q r s", lent),
		"lock m as g { }": lock("m", "g"), "lock m . * . a as g { g . * = 1 ; }": lock("m.*.a", "g", assign("g.*", one)),
		"chan < S > ( 1 ) as s , r ;": channel(named("S"), 1, "s", "r"), "chan < Box < & mut int > > ( 8 ) as a , b ;": channel(mk(api.TBox, mk(api.TMut, mk(api.TInt))), 8, "a", "b"),
	} {
		checkStmt(t, s, want)
		checkProgram(t, main(s, do(one), s), "fn main ( ) -> int { "+want+" 1 ; "+want+" 0 }\n")
		checkStmt(t, scope(match("e", "E", api.Arm{Variant: "A", Body: []api.Stmt{s}})), "scope { match e : E { A => { "+want+" } } }")
	}
}

// P4.1: each kind of an item.
func TestItems(t *testing.T) {
	number1, boxed := mk(api.TInt), mk(api.TBox, mk(api.TRef, named("S")))
	for want, x := range map[string]api.Item{
		"struct S { }":                           structure("S"),
		"struct S { a : int }":                   structure("S", field("a", number1)),
		"struct S { a : Box < & S > , b : int }": structure("S", field("a", boxed), field("b", number1)),
		"enum E { }":                             enum("E"),
		"enum E { A }":                           enum("E", field("A", api.Type{})),
		"enum E { A ( int ) , B , C ( Box < & S > ) }":     enum("E", field("A", number1), field("B", api.Type{}), field("C", boxed)),
		"fn f ( ) -> & mut int { x }":                      function("f", nil, mk(api.TMut, number1), use("x")),
		"fn f ( a : int , b : & unit ) -> S { 1 ; S { } }": function("f", []api.Field{field("a", number1), field("b", mk(api.TRef, mk(api.TUnit)))}, named("S"), made("S", ""), do(number(1))),
	} {
		checkProgram(t, items(x), want+"\n")
		checkProgram(t, items(x, x), want+"\n"+want+"\n")
	}
	var six []api.Field
	for _, s := range strings.Fields("a b c d e f") {
		six = append(six, field(s, number1))
	}
	checkProgram(t, items(structure("S", six...)), "struct S { a : int , b : int , c : int , d : int , e : int , f : int }\n")
	checkProgram(t, items(structure("S", append(six, field("g", number1))...)), "")
}

// P4.1: what isn't whole has the empty text, and so have no items.
func TestProgramsThatArent(t *testing.T) {
	checkProgram(t, api.Program{}, "")
	checkProgram(t, api.Program{Items: []api.Item{}}, "")
	one := number(1)
	for _, s := range []api.Stmt{
		{}, {Op: 14}, {Op: 255}, {Op: api.SLet, Name: "x"}, let("X", one), {Op: api.SLet, Name: "x", Exprs: []api.Expr{one, one}}, do(at(api.EShare, "x")), assign("x", at(api.EMut, "x")),
		assign("X", one), {Op: api.SDrop, Name: "X"}, {Op: api.SDrop}, take("s", "a", one), take("S", "A", one), take("S", "a b c d e f g", one), {Op: api.SIf}, {Op: api.SWhile, Else: []api.Stmt{do(one)}, Exprs: []api.Expr{one}},
		match("e", "e"), match("e", "E", api.Arm{}), match("e", "E", api.Arm{Variant: "A", Name: "B"}), spawn("a b", []api.Expr{one}), spawn("a", nil), lock("m", "G"), lock("", "g"),
		channel(mk(api.TInt), 0, "s", "r"), channel(mk(api.TInt), 9, "s", "r"), channel(api.Type{}, 1, "s", "r"), channel(mk(api.TInt), 1, "s", ""), {Op: api.SBlock, Exprs: []api.Expr{one}},
	} {
		checkProgram(t, main(s), "")
		checkProgram(t, main(do(one), scope(s), do(one)), "")
	}
	for _, x := range []api.Item{{}, {Kind: 4}, {Kind: 255}, structure("s"), structure("S", field("A", mk(api.TInt))), structure("S", field("a", api.Type{})), enum("e"), enum("E", field("a", mk(api.TInt))), {Kind: api.IStruct, Name: "S", Return: one}, function("F", nil, mk(api.TInt), one), function("f", nil, api.Type{}, one), function("f", nil, mk(api.TInt), at(api.EShare, "x")), function("f", nil, mk(api.TInt), api.Expr{})} {
		checkProgram(t, items(x), "")
		checkProgram(t, items(main().Items[0], x), "")
	}
}

// P4.1: the most items, the deepest statements, and what is beyond.
func TestGreatPrograms(t *testing.T) {
	var l []api.Item
	for range api.MaxItems {
		l = append(l, structure("S"))
	}
	checkProgram(t, items(l...), strings.Repeat("struct S { }\n", 30))
	checkProgram(t, items(append(l, structure("S"))...), "")
	inside := func(s api.Stmt) api.Stmt { return block(s) }
	checkStmt(t, nested(37, block(), inside), strings.TrimSuffix(strings.Repeat("{ ", 38)+strings.Repeat("} ", 38), " "))
	checkProgram(t, main(nested(38, block(), inside)), "")
}

// P0.1: what leads back to itself is not whole, and has an answer.
func TestCycles(t *testing.T) {
	types, exprs, body := []api.Type{mk(api.TBox)}, []api.Expr{ex(api.EAdd), ex(api.EAdd)}, []api.Stmt{block()}
	types[0].Args = types
	exprs[0].Args, exprs[1].Args = exprs, exprs
	body[0].Body = body
	checkType(t, types[0], "")
	checkExpr(t, exprs[0], "")
	checkProgram(t, main(body...), "")
}
