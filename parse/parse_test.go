package parse

import (
	"fmt"
	"slices"
	"strings"
	"testing"
	"unsafe"

	"weftway/api"
	"weftway/lex"
	"weftway/show"
	"weftway/tree"
)

func refused(t *testing.T, s string, err api.Errno, where int) {
	t.Helper()
	p, l := Program(s)
	if len(l) != 1 || l[0] != (api.Fault{Err: err, At: where}) || p.Items != nil {
		t.Errorf("%.300q: %v, want %v at %d", s, l, err, where)
	}
}

// inMain is a text of a function with that in its body, and a value behind it.
func inMain(s string) string { return "fn main() -> int { " + s + " 0 }" }

const bodyAt = len("fn main() -> int { ")

// body reads statements.
func body(t *testing.T, s string) []api.Stmt {
	t.Helper()
	p, l := Program(inMain(s))
	if len(l) != 0 || len(p.Items) != 1 {
		t.Fatalf("%q: %v", s, l)
	}
	return p.Items[0].Body
}

// value reads an expression.
func value(t *testing.T, s string) api.Expr {
	t.Helper()
	p, l := Program("fn main() -> int { " + s + " }")
	if len(l) != 0 || len(p.Items) != 1 {
		t.Fatalf("%q: %v", s, l)
	}
	return p.Items[0].Return
}

// The rows of the chapter's examples.
func TestExamples(t *testing.T) {
	check(t, "", api.Program{})
	p := main()
	p.Items[0].Return.At = 19
	check(t, "fn main() -> int { 0 }", p)
	f := function("f", []api.Field{field("a", mk(api.TInt))}, mk(api.TInt), ex(api.EAdd, use("a"), number(1)))
	f.Return.At, f.Return.Args[0].At, f.Return.Args[1].At = 24, 22, 27
	check(t, "fn f(a: int) -> int { a + (1) }", items(f))
	for s, at := range map[string]int{
		"fn f() -> int { 0; }": 19, "fn f() -> int { ": 16, "fn f() -> int { a = }": 20,
		"fn f() -> int { (a) = 1; 0 }": 20, "fn f() -> int { a < b < c }": 22, "struct s { }": 7,
	} {
		refused(t, s, api.ErrText, at)
	}
	refused(t, "fn f() -> int { chan<int>(9) as s, r; 0 }", api.ErrFull, 0)
	refused(t, "$", api.ErrLex, 0)
}

// P5.1: each kind of statement, and where it stands.
func TestStatements(t *testing.T) {
	a, one := use("a"), number(1)
	of := func(s api.Stmt, at int, exprs ...int) api.Stmt {
		s.At = bodyAt + at
		for i, x := range exprs {
			s.Exprs[i].At = bodyAt + x
		}
		return s
	}
	inner := func(at int) []api.Stmt { return []api.Stmt{of(api.Stmt{Op: api.SDrop, Name: "z"}, at)} }
	for s, want := range map[string]api.Stmt{
		"let x = 1;":                  of(let("x", one), 0, 8),
		"let r = &x.*;":               of(let("r", at(api.EShare, "x.*")), 0, 8),
		"let r = & mut x;":            of(let("r", at(api.EMut, "x")), 0, 8),
		"let S { } = a;":              of(take("S", "", a), 0, 12),
		"let S { b, c } = a;":         of(take("S", "b c", a), 0, 17),
		"x.*.a = 1;":                  of(assign("x.*.a", one), 0, 8),
		"a;":                          of(do(a), 0, 0),
		"((a));":                      of(do(a), 0, 2),
		"drop z;":                     inner(0)[0],
		"if a { drop z; }":            of(choose(a, inner(7), nil), 0, 3),
		"if (a) { } else { drop z; }": of(choose(a, nil, inner(18)), 0, 4),
		"if a { drop z; } else { }":   of(choose(a, inner(7), nil), 0, 3),
		"while a { drop z; }":         of(while(a, inner(10)...), 0, 6),
		"match e: E { }":              of(match("e", "E"), 0),
		"match e: E { A => { } B(y) => { drop z; } }": of(match("e", "E", api.Arm{Variant: "A"}, api.Arm{Variant: "B", Name: "y", Body: inner(32)}), 0),
		"scope { drop z; }":                           of(scope(inner(8)...), 0),
		"{ drop z; }":                                 of(block(inner(2)...), 0),
		"spawn () { drop z; }":                        of(spawn("", nil, inner(11)...), 0),
		"spawn (p = &a, q = 1) { }":                   of(spawn("p q", []api.Expr{at(api.EShare, "a"), one}), 0, 11, 19),
		"lock m.* as g { drop z; }":                   of(lock("m.*", "g", inner(16)...), 0),
		"chan<Box<&mut int>>(08) as s, r;":            of(channel(mk(api.TBox, mk(api.TMut, mk(api.TInt))), 8, "s", "r"), 0),
	} {
		p := main(want)
		p.Items[0].Return.At = bodyAt + len(s) + 1
		check(t, inMain(s), p)
		if l := body(t, s+" "+s); len(l) != 2 || l[1].At != bodyAt+len(s)+1 || l[0].Op != want.Op || l[1].Op != want.Op {
			t.Errorf("%q: %v", s, l)
		}
		if l := body(t, "{ scope { "+s+" } }"); len(l) != 1 || len(l[0].Body) != 1 || len(l[0].Body[0].Body) != 1 || l[0].Body[0].Body[0].Op != want.Op {
			t.Errorf("%q: %v", s, l)
		}
	}
}

// P5.1: each kind of expression, and where it stands.
func TestExpressions(t *testing.T) {
	a, one := use("a"), number(1)
	for s, want := range map[string]api.Expr{
		"0": number(0), "007": number(7), "9223372036854775807": number(9223372036854775807), "00000000000000000000001": one,
		"true": {Op: api.EBool, Int: 1}, "false": {Op: api.EBool}, "()": ex(api.EUnit), "( )": ex(api.EUnit),
		"a": a, "x.a.*": use("x.a.*"), "x . * . *": use("x.*.*"), "longest_name_9Zz": use("longest_name_9Zz"),
		"f()": call("f"), "f(&x.*, &mut y, g())": call("f", at(api.EShare, "x.*"), at(api.EMut, "y"), call("g")),
		"S { }": made("S", ""), "S { q = 1, p = a }": made("S", "q p", one, a),
		"E.A": variant("E", "A"), "E.A(1)": variant("E", "A", one), "E.A(())": variant("E", "A", ex(api.EUnit)), "E.A((1))": variant("E", "A", one),
		"- 1": ex(api.ENeg, one), "not not a": ex(api.ENot, ex(api.ENot, a)),
		"box(a)": ex(api.EBox, a), "unbox(a)": ex(api.EUnbox, a), "cell(a)": ex(api.ECell, a), "rc(a)": ex(api.ERc, a), "arc(a)": ex(api.EArc, a), "mutex(a)": ex(api.EMutex, a), "open(a)": ex(api.EOpen, a), "atomic(a)": ex(api.EAtomic, a),
		"get(x.a)": at(api.EGet, "x.a"), "clone(x)": at(api.EClone, "x"), "load(x.*)": at(api.ELoad, "x.*"), "recv(x)": at(api.ERecv, "x"),
		"set(x.a, 1)": at(api.ESet, "x.a", one), "store(x, a)": at(api.EStore, "x", a), "fetch(x, 1)": at(api.EFetch, "x", one), "send(x.*, a)": at(api.ESend, "x.*", a),
	} {
		got := value(t, s)
		if !tree.SameExpr(got, want) || got.At != bodyAt {
			t.Errorf("%q: %v", s, got)
		}
		if inside := value(t, "(( "+s+") )"); !tree.SameExpr(inside, want) || inside.At != bodyAt+3 {
			t.Errorf("%q in parentheses: %v", s, inside)
		}
	}
}

// P5.1: what signs between two sides are put together to, and at which of them it stands.
func TestSigns(t *testing.T) {
	for s, want := range map[string]string{
		"a - b - 1": "a - b - 1", "a - (b - 1)": "a - ( b - 1 )", "(a - b) - 1": "a - b - 1", "a - b + c * d / e % f": "a - b + c * d / e % f",
		"(a + b) * c": "( a + b ) * c", "a * (b + c)": "a * ( b + c )", "a * (b * c)": "a * ( b * c )", "-a * b": "- a * b", "-(a * b)": "- ( a * b )", "- -a": "- - a", "a - -b": "a - - b",
		"(a < b) < c": "( a < b ) < c", "a == (b == c)": "a == ( b == c )", "a + 1 < b * 2": "a + 1 < b * 2",
		"not a == b": "not a == b", "(not a) == b": "( not a ) == b", "not (a == b)": "not a == b", "not a and not b or not c": "not a and not b or not c", "not (a and b)": "not ( a and b )",
		"a or b and c": "a or b and c", "(a or b) and c": "( a or b ) and c", "a or (b or c)": "a or ( b or c )", "a.*.b*c": "a . * . b * c", "x.* * y.*": "x . * * y . *",
	} {
		if got := show.Expr(value(t, s)); got != want {
			t.Errorf("%q: %q, want %q", s, got, want)
		}
	}
	for s, l := range map[string][]int{"a - b - 1": {6, 2, 0}, "(a + b) * c": {8, 3, 1}, "not a < b": {0, 6, 4}, "((a) or (b))": {5, 2}, "- (a)": {0, 3}, "a or b or c and d": {7, 2, 0}} {
		e := value(t, s)
		for _, at := range l {
			if e.At != bodyAt+at {
				t.Errorf("%q: %v at %d, want %d", s, e.Op, e.At-bodyAt, at)
			}
			if len(e.Args) > 0 {
				e = e.Args[0]
			}
		}
	}
	for s, at := range map[string]int{"a < b == c": 6, "a == b < c": 7, "not a < b < c": 10, "not a == b == c": 11, "x and not a < b == c": 16, "a == not b": 5, "a + not b": 4, "- not a": 2, "a b": 2, "a.* b": 4, "a.* *": 6, "a *": 4, "* a": 0, "a = b": 6, "a + b = c": 6, "not a = b": 6, "f() = 1": 4, "a.b()": 3, "f().a": 3, "(a).b": 3, "a.(b)": 2, "a.get": 2, "a.B": 2, "a..b": 2, "&a": 0, "(&a)": 1, "- &a": 2, "E": 2, "E.a": 2, "E.A.B": 3, "E.A()": 4, "E { A = 1 }": 4, "E { a }": 6, "E { a = &b }": 8, "1(2)": 1, "box()": 4, "box(a, b)": 5, "box a": 4, "get(1)": 4, "get((a))": 4, "get(a, b)": 5, "set(a)": 5, "set(a b)": 6, "set(a, &b)": 7, "recv()": 5, "()()": 2, "true.a": 4, "12ab": 2, "let": 4, "mut": 0, "int": 0, "Box": 0, "as": 0, "else": 0} {
		refused(t, "fn main() -> int { "+s+" }", api.ErrText, bodyAt+at)
	}
}

// P5.1: statements, items and types that are none.
func TestWrong(t *testing.T) {
	for s, at := range map[string]int{
		"let x = (&a);": 9, "let x = &(a);": 9, "let x = &mut mut a;": 13, "let x = &a + 1;": 11, "let x = & & a;": 10, "let x;": 5, "let 1 = a;": 4, "let x = ;": 8, "let let = a;": 4, "let x.a = 1;": 5, "let S { a } = &b;": 14, "let S { a, } = b;": 11, "let S = b;": 6, "let S { A } = b;": 8,
		"a = &b;": 4, "a = b = c;": 6, "a = b": 6, "drop a.b;": 6, "drop A;": 5, "drop (a);": 5, "if a else { }": 5, "if a { } else if b { } ": 14, "if { }": 3, "else { }": 0, "while a b": 8, "while { }": 6, "if a { b }": 9,
		"match e { }": 8, "match E: E { }": 6, "match e: e { }": 9, "match e.a: E { }": 7, "match e: E { A { } }": 15, "match e: E { a => { } }": 13, "match e: E { A => { }, }": 21, "match e: E { A() => { } }": 15, "match e: E { A(B) => { } }": 15, "match e: E { A => 0 }": 18,
		"scope 0": 6, "spawn { }": 6, "spawn (a) { }": 8, "spawn (a = &b, ) { }": 15, "spawn (a = (&b)) { }": 12, "spawn (A = b) { }": 7, "lock a { }": 7, "lock (a) as g { }": 5, "lock a as G { }": 10, "lock a as g.x { }": 11, "lock f() as g { }": 6,
		"chan<int>(n) as s, r;": 10, "chan<int>(-1) as s, r;": 10, "chan<int>((1)) as s, r;": 10, "chan<int>(1) as s;": 17, "chan<int>(1) as s, r, t;": 20, "chan(1) as s, r;": 4, "chan<>(1) as s, r;": 5, "chan<mut int>(1) as s, r;": 5, "chan<&&>(1) as s, r;": 7, "chan<Box>(1) as s, r;": 8, "chan<int<int>>(1) as s, r;": 8, "chan<S<int>>(1) as s, r;": 6, "chan<s>(1) as s, r;": 5, "chan<Box<int, int>>(1) as s, r;": 12, "chan<box<int>>(1) as s, r;": 5,
		"};": 0, ";": 0, ",": 0, "{ 0 }": 4, "{ ; }": 2, "fn": 0, "struct S { }": 0, "mut a;": 0,
	} {
		refused(t, inMain(s), api.ErrText, bodyAt+at)
	}
	for s, at := range map[string]int{
		"let": 0, "0": 0, "fn main() -> int { 0 } }": 23, "struct": 6, "struct S": 8, "struct S {": 10, "struct S { a: int, }": 19, "struct S { a int }": 13, "struct S { a: }": 14, "struct S { A: int }": 11, "struct S { a: int b: int }": 18, "struct Box { }": 7, "struct S(": 8, "struct S { };": 12, "struct S { , }": 11,
		"enum e { }": 5, "enum E { a }": 9, "enum E { A() }": 11, "enum E { A: int }": 10, "enum E { A(int, int) }": 14, "enum E { A, }": 12, "enum E { A(int): }": 15, "enum E { A B }": 11, "enum E { Box }": 9,
		"fn F() -> int { 0 }": 3, "fn f -> int { 0 }": 5, "fn f() int { 0 }": 7, "fn f() -> { 0 }": 10, "fn f() -> let { 0 }": 10, "fn f(a) -> int { 0 }": 6, "fn f(A: int) -> int { 0 }": 5, "fn f(a: int,) -> int { 0 }": 12, "fn f() -> int 0": 14, "fn f() -> int { }": 16, "fn f() -> int { if a { } }": 25, "fn f() -> int { 0": 17, "fn f() -> int { 0 // }": 22, "fn f() -> int { &a }": 16, "fn f() -> unit { a = 1 }": 23,
	} {
		refused(t, s, api.ErrText, at)
	}
	check(t, "fn f() -> &mut & Box<S> { a }", func() api.Program {
		p := items(function("f", nil, mk(api.TMut, mk(api.TRef, mk(api.TBox, named("S")))), use("a")))
		p.Items[0].Return.At = 26
		return p
	}())
}

// counted is n of the things that %d is put into, with commas, or what sep says, between.
func counted(n int, thing, sep string) string {
	var l []string
	for i := range n {
		l = append(l, strings.ReplaceAll(thing, "%d", fmt.Sprint(i)))
	}
	return strings.Join(l, sep)
}

// P5.1: six of each may be, seven may not; and that is told behind what is no program's text, ahead of what is too deep.
func TestFull(t *testing.T) {
	for form, thing := range map[string]string{
		"struct S { % }": "f%d: int", "enum E { % }": "V%d", "fn f(%) -> int { 0 }": "p%d: int",
		inMain("f(%);"): "%d", inMain("f(g(%));"): "&x%d", inMain("S { % };"): "f%d = %d", inMain("let S { % } = a;"): "n%d", inMain("spawn (%) { }"): "n%d = &x", inMain("scope { spawn (%) { } }"): "n%d = 1",
	} {
		s := strings.ReplaceAll(form, "%", counted(6, thing, ", "))
		if _, l := Program(s); len(l) != 0 {
			t.Errorf("%q: %v", s, l)
		}
		s = strings.ReplaceAll(form, "%", counted(7, thing, ", "))
		refused(t, s, api.ErrFull, 0)
		refused(t, "fn f() -> int { "+strings.Repeat("not ", 38)+"a } "+s, api.ErrFull, 0)
		refused(t, s+" }", api.ErrText, len(s)+1)
		refused(t, s+" fn", api.ErrText, len(s)+3)
	}
	arms := func(n int) string { return inMain("match e: E { " + counted(n, "A%d => { }", " ") + " }") }
	if _, l := Program(arms(6)); len(l) != 0 {
		t.Error(l)
	}
	refused(t, arms(7), api.ErrFull, 0)
	for n := range 12 {
		s := inMain(fmt.Sprintf("chan<int>(00%d) as s, r;", n))
		if _, l := Program(s); n >= 1 && n <= 8 {
			if len(l) != 0 {
				t.Errorf("%q: %v", s, l)
			}
		} else {
			refused(t, s, api.ErrFull, 0)
			refused(t, s+" ,", api.ErrText, len(s)+1)
		}
	}
	refused(t, inMain("chan<int>(9223372036854775807) as s, r;"), api.ErrFull, 0)
	if _, l := Program(counted(30, "struct S { }", "")); len(l) != 0 {
		t.Error(l)
	}
	refused(t, counted(31, "struct S { }", ""), api.ErrFull, 0)
	refused(t, counted(31, "struct S { }", "")+"struct s { }", api.ErrText, 31*12+7)
}

// P5.1: forty deep may be, and parentheses as many as there is room for.
func TestDeep(t *testing.T) {
	box := func(n int) string { return strings.Repeat("Box<", n) + "int" + strings.Repeat(">", n) }
	blocks := func(n int) string { return inMain(strings.Repeat("{ ", n) + strings.Repeat("} ", n)) }
	nots := func(n int) string { return "fn f() -> int { " + strings.Repeat("not ", n) + "a }" }
	most := map[string]string{
		nots(37): nots(38), blocks(38): blocks(39),
		"struct S { a: " + box(37) + " }":                                      "struct S { a: " + box(38) + " }",
		"fn f() -> " + box(37) + " { a }":                                      "fn f() -> " + box(38) + " { a }",
		inMain("chan<" + box(36) + ">(1) as s, r;"):                            inMain("chan<" + box(37) + ">(1) as s, r;"),
		inMain("a" + strings.Repeat(" + a", 36) + ";"):                         inMain("a" + strings.Repeat(" + a", 37) + ";"),
		"fn f() -> int { x" + strings.Repeat(".*.a", api.MaxDeep/2) + " }":     "fn f() -> int { x" + strings.Repeat(".*.a", api.MaxDeep/2) + ".a }",
		inMain("lock x" + strings.Repeat(".*.a", api.MaxDeep/2) + " as g { }"): inMain("lock x" + strings.Repeat(".*.a", api.MaxDeep/2) + ".a as g { }"),
	}
	for s, more := range most {
		if p, l := Program(s); len(l) != 0 || !tree.Whole(p) {
			t.Errorf("%q: %v", s, l)
		}
		refused(t, more, api.ErrDeep, 0)
		refused(t, more+" )", api.ErrText, len(more)+1)
	}
	for _, n := range []int{1, 38, 700} {
		check(t, "fn f() -> int { "+strings.Repeat("(", n)+"a"+strings.Repeat(")", n)+" }", func() api.Program {
			p := items(function("f", nil, mk(api.TInt), use("a")))
			p.Items[0].Return.At = 16 + n
			return p
		}())
	}
	refused(t, "fn f() -> int { "+strings.Repeat("(", 1400), api.ErrText, 1416)
	refused(t, "fn f() -> int { "+strings.Repeat("- ", 1400)+"1 }", api.ErrDeep, 0)
	refused(t, "fn f() -> int { "+strings.Repeat("{ ", 1400), api.ErrText, 16+2800)
	refused(t, "fn f() -> "+strings.Repeat("& ", 1400), api.ErrText, 10+2800)
}

// P5.1: what layer 2 refuses, with its place, ahead of all else.
func TestWords(t *testing.T) {
	refused(t, strings.Repeat(" ", api.MaxText+1), api.ErrLong, 0)
	refused(t, strings.Repeat("$", api.MaxText+1), api.ErrLong, 0)
	check(t, strings.Repeat(" ", api.MaxText), api.Program{})
	refused(t, ") fn fn #", api.ErrLex, 8)
	refused(t, "fn f() -> int { 9223372036854775808 }", api.ErrLex, 16)
	refused(t, "fn seventeen_letters() -> int { 0 }", api.ErrLex, 3)
	refused(t, strings.Repeat(", ", api.MaxTokens+1), api.ErrFull, 0)
	refused(t, strings.Repeat(", ", api.MaxTokens), api.ErrText, 0)
	refused(t, strings.Repeat(", ", api.MaxTokens+1)+"$", api.ErrLex, 2*api.MaxTokens+2)
	for _, s := range []string{" ", "\n", "// none", "\t//\r\n"} {
		check(t, s, api.Program{})
	}
	for i := range 256 {
		Program(string([]byte{byte(i)}))
		Program("fn f() -> int { " + string([]byte{byte(i)}) + " 0 }")
	}
}

// P0.4: what is answered shares no memory with the text, nor one list with another.
func TestApart(t *testing.T) {
	s := strings.Clone("fn f(a: S) -> S { let x = g(a, 1); S { a = x.* } }")
	p, _ := Program(s)
	from, to := uintptr(unsafe.Pointer(unsafe.StringData(s))), uintptr(len(s))
	f := p.Items[0]
	for _, x := range []string{f.Name, f.Fields[0].Name, f.Fields[0].Type.Name, f.Result.Name, f.Body[0].Name, f.Body[0].Exprs[0].Name, f.Return.Name, f.Return.Place.Path[0], f.Return.Args[0].Place.Name, f.Return.Args[0].Place.Path[0]} {
		if uintptr(unsafe.Pointer(unsafe.StringData(x)))-from < to {
			t.Errorf("%q is a piece of the text", x)
		}
	}
	before := tree.Copy(p)
	q, _ := Program(s)
	clear(append(q.Items[0].Body[0].Exprs[0].Args, api.Expr{}, api.Expr{}))
	clear(append(q.Items[0].Return.Args[0].Place.Path, "y", "y", "y"))
	clear(q.Items)
	if again, _ := Program(s); !tree.Same(again, before) || !tree.Same(p, before) {
		t.Error(again)
	}
}

// The strengths, side by side: each pair of signs, with and without parentheses, as the chapter's row says.
func TestPairsOfSigns(t *testing.T) {
	ops := []uint8{api.EOr, api.EAnd, api.ELess, api.EEqual, api.EAdd, api.ESub, api.EMul, api.EDiv, api.EMod}
	for _, x := range ops {
		for _, y := range ops {
			s := "a " + wordOrSign(x) + " b " + wordOrSign(y) + " c"
			left := ex(y, ex(x, use("a"), use("b")), use("c"))
			right := ex(x, use("a"), ex(y, use("b"), use("c")))
			compared := []uint8{api.ELess, api.EEqual}
			switch {
			case slices.Contains(compared, x) && slices.Contains(compared, y):
				refused(t, "fn main() -> int { "+s+" }", api.ErrText, bodyAt+len("a b ")+len(wordOrSign(x))+1)
			case level(x) >= level(y):
				sameValue(t, s, left)
			default:
				sameValue(t, s, right)
			}
			sameValue(t, "(a "+wordOrSign(x)+" b) "+wordOrSign(y)+" c", left)
			sameValue(t, "a "+wordOrSign(x)+" (b "+wordOrSign(y)+" c)", right)
		}
		sameValue(t, "- a "+wordOrSign(x)+" - b", ex(x, ex(api.ENeg, use("a")), ex(api.ENeg, use("b"))))
		sameValue(t, "-(a "+wordOrSign(x)+" b)", ex(api.ENeg, ex(x, use("a"), use("b"))))
		if level(x) > level(api.ENot) {
			sameValue(t, "not a "+wordOrSign(x)+" b", ex(api.ENot, ex(x, use("a"), use("b"))))
			refused(t, "fn main() -> int { a "+wordOrSign(x)+" not b }", api.ErrText, bodyAt+len("a ")+len(wordOrSign(x))+1)
		} else {
			sameValue(t, "not a "+wordOrSign(x)+" not b", ex(x, ex(api.ENot, use("a")), ex(api.ENot, use("b"))))
		}
	}
}

func sameValue(t *testing.T, s string, want api.Expr) {
	t.Helper()
	if got := value(t, s); !tree.SameExpr(got, want) {
		t.Errorf("%q: %q, want %q", s, show.Expr(got), show.Expr(want))
	}
}

// P5.1: the text of each example of the whole is a program's.
func TestWholeTexts(t *testing.T) {
	for _, s := range []string{
		"let x = box(1); let y = x; let z = x;", "let b = box(5); let r = &b.*; drop b; r.*;", "scope { spawn (r = &mut x) { r.* = 1; } x = 2; }",
		"scope { let y = box(1); spawn (r = &y) { let k = r.*.*; } }", "let a = rc(1); scope { spawn (c = clone(a)) { drop c; } }", "let m = arc(mutex(0)); lock m.* as g { 1 / 0; }",
	} {
		tokens, _, _ := lex.All(inMain(s))
		if p, l := Program(inMain(s)); len(l) != 0 || !tree.Whole(p) || len(tokens) == 0 {
			t.Errorf("%q: %v", s, l)
		}
	}
}
