package borrow

import (
	"regexp"
	"slices"
	"strings"
	"testing"

	"weftway/api"
	"weftway/parse"
	"weftway/typing"
)

// read is the program of a text; it is right so far.
func read(t *testing.T, s string) api.Program {
	t.Helper()
	p, l := parse.Program(s)
	if len(l) > 0 {
		t.Fatalf("%q: %v", s, l)
	}
	if l := typing.Check(p); len(l) > 0 {
		t.Fatalf("%q: not right so far: %v", s, l)
	}
	return p
}

// marked takes the marks out of a text: ahead of a token `#` says that a fault is told there: `u`, of what isn't set, `l`, of what is lent, `a`, of what dies too soon. A number behind it says that it is told behind all with a lesser one, or none.
func marked(s string) (string, []api.Fault) {
	type numbered struct {
		api.Fault
		number string
	}
	mark := regexp.MustCompile(`#([ula])([0-9]?) +`)
	var bare strings.Builder
	var all []numbered
	last := 0
	for _, m := range mark.FindAllStringSubmatchIndex(s, -1) {
		bare.WriteString(s[last:m[0]])
		last = m[1]
		err := map[string]api.Errno{"u": api.ErrUninit, "l": api.ErrLoan, "a": api.ErrAlias}[s[m[2]:m[3]]]
		all = append(all, numbered{api.Fault{Err: err, At: bare.Len()}, s[m[4]:m[5]]})
	}
	bare.WriteString(s[last:])
	slices.SortStableFunc(all, func(a, b numbered) int { return strings.Compare(a.number, b.number) })
	var faults []api.Fault
	for _, f := range all {
		faults = append(faults, f.Fault)
	}
	return bare.String(), faults
}

// told checks a text with marks.
func told(t *testing.T, s string) {
	t.Helper()
	bare, want := marked(s)
	if got := Check(read(t, bare)); !slices.Equal(got, want) {
		t.Errorf("%s\n%v, want %v", strings.TrimPrefix(s, items), got, want)
	}
}

// items are what the texts of these tests ask for.
const items = "struct S { a: int, b: Box<int>, c: T } struct T { d: Box<int>, e: int } struct O { } enum E { A, B(Box<int>), C(int) } enum N { } " +
	"fn never() -> N { never() } fn main() -> int { 0 } fn eat(a: Box<int>) -> int { 0 } fn eats(a: S) -> int { 0 } fn peek(a: &Box<int>) -> int { 0 } fn poke(a: &mut Box<int>) -> int { 0 } " +
	"fn two(a: &Box<int>, b: &Box<int>) -> int { 0 } fn pair(a: &mut Box<int>, b: &mut Box<int>) -> int { 0 } fn mixed(a: &mut Box<int>, b: int) -> int { 0 } fn shared(a: &Box<int>, b: int) -> int { 0 } fn gives(a: Box<int>, b: &Box<int>) -> int { 0 } "

// in is a text of a function with that in its body, and variables of all sorts.
func in(s string) string {
	return items + "fn f(x: Box<int>, y: Box<int>, s: S, e: E, r: &Box<int>, m: &mut Box<int>) -> int { let n = 1; " + s + " 0 }"
}

// all checks texts with marks, each in the body of that function.
func all(t *testing.T, texts ...string) {
	t.Helper()
	for _, s := range texts {
		told(t, in(s))
	}
}

// The rows of the chapter's examples.
func TestExamples(t *testing.T) {
	for _, s := range []string{
		"let y = x; let z = #u x;",
		"let r = &x; let y = #l x;", "{ let r = &x; } let y = x;",
		"let r = &mut x; let s = #l &x;",
		"while true { let y = #u x; }",
		"scope { spawn (r = &x) { } spawn (r = &x) { } }", "scope { spawn (r = &x) { } spawn (r = #l &mut x) { } }",
		"scope { let y = box(2); spawn (r = #a &y) { } }",
		"if true { drop x; } else { } x = box(2);",
	} {
		told(t, "fn main() -> int { let x = box(1); "+s+" 0 }")
	}
}

// The document's ten examples of the whole, as far as they are about moves and loans, and chapter 30's programs.
func TestWholePrograms(t *testing.T) {
	for _, s := range []string{
		"fn main() -> int { 3 }",
		"fn main() -> int { let x = box(1); let y = x; let z = #u x; 0 }",
		"fn main() -> int { let b = box(5); let r = &b.*; #l drop b; r.* }",
		"fn main() -> int { let x = 0; scope { spawn (r = &mut x) { r.* = 1; } #l x = 2; } x }",
		"fn main() -> int { scope { let y = box(1); spawn (r = #a &y) { let k = r.*.*; } } 0 }",
		"fn main() -> int { let a = rc(1); scope { spawn (c = clone(a)) { } } 0 }",
		"fn main() -> int { let a = arc(1); scope { spawn (c = clone(a)) { } } 0 }",
		"fn main() -> int { let m = mutex(0); let l = mutex(0); scope { spawn (a = &m, b = &l) { lock a.* as g { lock b.* as h { } } } spawn (a = &m, b = &l) { lock b.* as h { lock a.* as g { } } } } 0 }",
		"fn main() -> int { let b = box(4); let c = unbox(b); c + 1 }",
		"fn main() -> int { let a = atomic(0); scope { spawn (r = &a) { fetch(r.*, 1); } spawn (r = &a) { fetch(r.*, 2); } } load(a) }",
		"fn main() -> int { let m = arc(mutex(0)); let out = 0; scope { let n = clone(m); spawn (k = n) { lock k.* as g { g.* = g.* + 1; } } spawn (r = &m) { lock r.*.* as g { g.* = g.* + 10; } } } lock m.* as g { out = g.*; } out }",
		"fn main() -> int { chan<int>(1) as s, r; let t = 0; scope { spawn (q = s) { send(q, 5); send(q, 6); } t = recv(r); t = t * 10 + recv(r); } t }",
		"enum Opt { No, Some(int) } fn take(o: Opt) -> int { let n = 0; match o : Opt { No => { n = 1; } Some(k) => { n = k; } } n } fn main() -> int { take(Opt.Some(8)) + take(Opt.No) }",
		"struct Pair { a: int, b: Box<int> } fn main() -> int { let p = Pair { a = 2, b = box(3) }; let n = 0; { let r = &p; n = r.*.a + r.*.b.*; } let Pair { x, y } = p; n * 10 + x + unbox(y) }",
		"fn main() -> int { let c = cell(1); set(c, get(c) + 4); get(c) }",
		"fn main() -> int { let a = rc(7); let b = clone(a); drop a; b.* }",
		"fn main() -> int { let i = 0; let s = 0; while i < 5 { i = i + 1; s = s + i; } s }",
		"fn main() -> int { let a = rc(1); let b = clone(a); scope { spawn (c = b) { let d = clone(c); } let e = clone(a); } 0 }",
		"fn main() -> int { let c = cell(0); scope { spawn (r = &c) { set(r.*, 1); } set(c, 2); } get(c) }",
		"fn main() -> int { let m = mutex(1); lock m as g { #l drop m; } 0 }",
		"fn main() -> int { let x = 0; scope { spawn (r = &mut x) { r.* = 1; } #l x = 2; } x }",
		"fn main() -> int { chan<Rc<int>>(2) as s, r; let a = rc(1); let b = clone(a); send(s, b); scope { spawn (q = r) { let c = recv(q); let d = clone(c); } let e = clone(a); } 0 }",
	} {
		told(t, s)
	}
}

// P14.1: function by function, the items in their order; structs and enums have no body.
func TestOrderOfFunctions(t *testing.T) {
	told(t, "fn g(x: Box<int>) -> int { drop x; #u drop x; 0 } struct S { a: int } fn f(x: Box<int>) -> int { let r = &x; #l drop x; #u drop x; 0 } enum E { A } fn main() -> int { let x = box(1); drop x; f(#u x); #u x.* } fn h(x: Box<int>) -> int { drop x; #u x.* + #u x.* }")
	told(t, "fn main() -> int { let x = box(1); let y = &x; x.* + x.* } fn f(x: int) -> int { let y = &mut x; #l x + #l x }")
}

// P14.1: of programs that are not right so far nothing is told.
func TestNotRightSoFar(t *testing.T) {
	const wrong = "let x = box(1); drop x; drop x; let r = &x; scope { spawn (q = r) { } } "
	for i, s := range []string{
		"", "fn main() -> int { " + wrong + "z }", "fn main() -> bool { " + wrong + "true }", "fn f() -> int { " + wrong + "0 }", "fn main() -> int { " + wrong + "let x = 1; 0 }", "fn main() -> int { " + wrong + "spawn () { } 0 }",
		"struct S { a: S } fn main() -> int { " + wrong + "0 }", "struct S { a: &int } fn main() -> int { " + wrong + "0 }", "fn main() -> int { " + wrong + "true }", "fn main() -> int { " + wrong + "let b = box(box(1)); let c = b.*; 0 }",
		"fn main() -> int { " + wrong + "0 } fn f(a: int) -> int { a = true; 0 }", "fn main() -> int { " + wrong + "box(r); 0 }", "fn main() -> int { " + wrong + "scope { spawn (q = 1) { q = true; } } 0 }",
	} {
		p, l := parse.Program(s)
		if len(l) > 0 {
			t.Fatalf("%d: %v", i, l)
		}
		if got := Check(p); got != nil {
			t.Errorf("%d: %v", i, got)
		}
	}
	p := read(t, "fn main() -> int { "+wrong[:strings.Index(wrong, "let r")]+"0 }")
	if got := Check(p); len(got) != 1 {
		t.Fatal(got)
	}
	for i, spoil := range []func(x *api.Item){
		func(x *api.Item) { x.Kind = 0 }, func(x *api.Item) { x.Kind = 9 }, func(x *api.Item) { x.Return = api.Expr{} }, func(x *api.Item) { x.Return.Int = -1 }, func(x *api.Item) { x.Body[1].Op = 0 }, func(x *api.Item) { x.Body[1].Op = 200 }, func(x *api.Item) { x.Body[0].Exprs = nil }, func(x *api.Item) { x.Body[1].Exprs = x.Body[0].Exprs },
		func(x *api.Item) { x.Body[0].Op = api.SSpawn }, func(x *api.Item) { x.Body[0].Op = api.STake }, func(x *api.Item) { x.Body[1].Op = api.SMatch }, func(x *api.Item) { x.Return = api.Expr{Op: api.EShare, Place: api.Place{Name: "x"}} }, func(x *api.Item) { x.Fields = make([]api.Field, 7) },
	} {
		q := read(t, "fn main() -> int { "+wrong[:strings.Index(wrong, "let r")]+"0 }")
		spoil(&q.Items[0])
		if got := Check(q); got != nil {
			t.Errorf("%d: %v", i, got)
		}
	}
	for i, q := range []api.Program{{}, {Items: []api.Item{}}, {Items: slices.Repeat(p.Items, 31)}, {Items: append(slices.Clone(p.Items), api.Item{})}, {Items: append(slices.Clone(p.Items), p.Items...)}} {
		if got := Check(q); got != nil {
			t.Errorf("%d: %v", i, got)
		}
	}
}

// P14.1: each fault is told once in a body, though it is met more than once; in another body it is told again.
func TestOnce(t *testing.T) {
	number := api.Expr{Op: api.EInt, Int: 1}
	x := func(at int) api.Expr { return api.Expr{Op: api.EUse, Place: api.Place{Name: "x"}, At: at} }
	made := api.Stmt{Op: api.SLet, Name: "x", Exprs: []api.Expr{{Op: api.EBox, Args: []api.Expr{number}}}}
	do := func(at int) api.Stmt { return api.Stmt{Op: api.SDo, Exprs: []api.Expr{x(at)}} }
	lent := api.Stmt{Op: api.SLet, Name: "r", Exprs: []api.Expr{{Op: api.EShare, Place: api.Place{Name: "x"}, At: 7}}}
	thread := api.Stmt{Op: api.SScope, Body: []api.Stmt{{Op: api.SSpawn, Body: []api.Stmt{made, do(5), do(5), do(5)}}}}
	fn := func(name string, l ...api.Stmt) api.Item {
		return api.Item{Kind: api.IFn, Name: name, Result: api.Type{Kind: api.TInt}, Body: l, Return: number}
	}
	p := api.Program{Items: []api.Item{
		fn("main", made, do(5), do(5), do(6), do(5), do(6), lent, do(5), do(7), do(8), thread, do(9)),
		fn("f", made, lent, do(5), do(5), do(7), do(5), thread, thread),
	}}
	want := []api.Fault{
		{Err: 140, At: 5}, {Err: 140, At: 6}, {Err: 140, At: 7}, {Err: 140, At: 8}, {Err: 140, At: 9}, {Err: 140, At: 5},
		{Err: 141, At: 5}, {Err: 140, At: 5}, {Err: 140, At: 7}, {Err: 140, At: 5}, {Err: 140, At: 5},
	}
	if got := Check(p); !slices.Equal(got, want) {
		t.Error(got)
	}
}
