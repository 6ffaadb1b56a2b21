package typing

import (
	"regexp"
	"slices"
	"strings"
	"testing"

	"weftway/api"
	"weftway/parse"
)

// read is the program of a text.
func read(t *testing.T, s string) api.Program {
	t.Helper()
	p, l := parse.Program(s)
	if len(l) > 0 {
		t.Fatalf("%q: %v", s, l)
	}
	return p
}

// typed is the type of a text.
func typed(t *testing.T, s string) api.Type {
	t.Helper()
	return read(t, "fn f(a: "+s+") -> int { 0 }").Items[0].Fields[0].Type
}

// marked takes the marks out of a text: ahead of a token `#` says that a fault is told there, one of a type; an `o` behind it, that it is one of what isn't owned, an `m`, of what can't be moved.
func marked(s string) (string, []api.Fault) {
	mark := regexp.MustCompile(`#([om]?) +`)
	var bare strings.Builder
	var all []api.Fault
	last := 0
	for _, m := range mark.FindAllStringSubmatchIndex(s, -1) {
		bare.WriteString(s[last:m[0]])
		last = m[1]
		err := map[string]api.Errno{"": api.ErrType, "o": api.ErrOwned, "m": api.ErrMove}[s[m[2]:m[3]]]
		all = append(all, api.Fault{Err: err, At: bare.Len()})
	}
	bare.WriteString(s[last:])
	return bare.String(), all
}

// told checks a text with marks.
func told(t *testing.T, s string) {
	t.Helper()
	bare, want := marked(s)
	if got := Check(read(t, bare)); !slices.Equal(got, want) {
		t.Errorf("%q: %v, want %v", s, got, want)
	}
}

// in is a text of a function with that in its body, and variables of all sorts.
func in(s string) string {
	return "struct S { a: int, b: Box<int>, c: Rc<S> } struct O { } enum E { A, B(Box<int>) } enum N { } " +
		"fn two(a: int, b: S) -> E { E.A } fn lent(a: &int, b: &mut S) -> unit { () } fn never() -> N { never() } fn main() -> int { 0 } " +
		"fn f(x: S, r: &S, m: &mut S, e: E, k: &&mut S, z: &mut &S) -> int { let n = never(); let c = cell(1); let v = cell(true); let q = rc(x); " +
		"let w = arc(mutex(x)); let u = mutex(1); let o = atomic(1); chan<Box<int>>(1) as s, s1; chan<S>(1) as t1, t; " + s + " 0 }"
}

// The rows of the chapter's examples.
func TestExamples(t *testing.T) {
	const ahead = "struct S { a: int, b: Box<int> } fn main() -> int { 0 } fn f(x: S, r: &S, m: &mut S, c: Cell<int>) -> int { "
	for _, s := range []string{
		"let i = x.a + 1; i = 2;", "let i = #m x.b;", "let i = x; i = x; i.a = 2;", "let i = r.*.a; i = 2;", "let i = r; i.*.a + 1;",
		"let i = # &mut r.*.a;", "let i = &mut m.*.a; i.* = 1;", "let i = &x.b.*; i.* + 1;",
		"#o box(r);", "# cell(x);", "if get(c) == 1 { }", "# not 1;",
		"# r.*.a = 1;", "m.*.a = 1;", "#o r = r;",
	} {
		told(t, ahead+s+" 0 }")
	}
}

// P10.1: the operators that ask for ints and bools, at each side.
func TestArithmetic(t *testing.T) {
	for _, op := range []string{"+", "-", "*", "/", "%"} {
		for _, s := range []string{
			"1 O 2", "x.a O get(c)", "-1 O -x.a", "1 # O true", "false # O 1", "() # O ()", "x # O x", "r # O r", "1 O (2 # O true)", "(1 # O true) O 2",
		} {
			s = strings.ReplaceAll(s, "O", op)
			told(t, in(s+";"))
			told(t, in("let i = "+s+"; i + 1;"))
		}
		told(t, in("if 1 "+op+" 2 < 3 { }"))
		told(t, in("# if 1 "+op+" 2 { }"))
	}
	for _, op := range []string{"<", "=="} {
		for _, s := range []string{"1 O 2", "not (1 O 2)", "true # O false", "1 # O true", "true # O 1", "x # O x", "() # O ()", "e # O e", "(1 O 2) # O 3"} {
			told(t, in(strings.ReplaceAll(s, "O", op)+";"))
		}
		told(t, in("if 1 "+op+" 2 { }"))
		told(t, in("1 # + (1 "+op+" 2);"))
	}
	for _, op := range []string{"and", "or"} {
		for _, s := range []string{"true O false", "1 < 2 O not true", "1 # O true", "true # O 1", "() # O true", "true O (1 # O true)"} {
			told(t, in(strings.ReplaceAll(s, "O", op)+";"))
		}
		told(t, in("if true "+op+" false { }"))
		told(t, in("1 # + (true "+op+" true);"))
	}
	for _, s := range []string{
		"-1;", "-(-x.a);", "# -true;", "# -x;", "# -();", "-(# -true);", "not not true;", "# not 1;", "# not ();", "# not x.a;", "if not (1 < 2) { }", "# if -1 { }",
	} {
		told(t, in(s))
	}
}

// P10.1: a place that is used: of a moved type without steps alone.
func TestUsedPlaces(t *testing.T) {
	for _, s := range []string{
		"x;", "x.a;", "#m x.b;", "x.b.*;", "#m x.c;", "#m x.c.*;", "x.c.*.a;", "# x.d;", "# x.a.a;", "# x.*;", "# x.b.a;", "# x.a.*;", "# x.s;",
		"r;", "#m r.*;", "r.*.a;", "#m r.*.b;", "# r.a;", "r.*.b.*;", "# r.*.*;",
		"m;", "#m m.*;", "m.*.a;", "# m.a;", "#m m.*.b;", "m.*.b.*;",
		"k;", "#m k.*;", "#m k.*.*;", "k.*.*.a;", "z;", "z.*;", "z.*.*.a;", "#m z.*.*;",
		"c;", "# c.*;", "e;", "# e.a;", "# e.*;", "n;", "q;", "#m q.*;", "q.*.a;", "# q.a;", "w;", "#m w.*;", "# w.*.*;", "# w.*.a;",
		"u;", "# u.*;", "o;", "# o.*;", "s;", "# s.*;", "t;", "# t.*;", "v;", "# v.*;",
	} {
		told(t, in(s))
	}
}

// P10.1: a place that is lent, shared or alone.
func TestLentPlaces(t *testing.T) {
	for _, s := range []string{
		"let i = &x; i.*.a;", "let i = &x.b; i.*.*;", "let i = &r; i.*.*.a;", "let i = &q.*.b.*; i.*;", "let i = &w.*; i; # i.*.*;", "let i = &c; get(i.*);",
		"let i = # &x.d;", "let i = # &x.*;", "let i = # &c.*;", "let i = &x; # i.a;",
		"let i = &mut x; i.*.a = 1;", "let i = &mut x.b.*; i.* = 1;", "let i = &mut m.*.b; i.*.* = 1;", "let i = &mut m; i.*.*.a = 1;", "let i = &mut r; i.*.*.a;", "let i = &mut z.*; i.*.*.a;",
		"let i = # &mut r.*;", "let i = # &mut r.*.a;", "let i = # &mut x.c.*;", "let i = # &mut x.c.*.a;", "let i = # &mut q.*;", "let i = # &mut w.*;",
		"let i = # &mut k.*;", "let i = # &mut k.*.*.a;", "let i = # &mut z.*.*;", "let i = # &mut x.d;", "let i = # &mut u.*;",
		"let i = &x; let j = i; i.*.a + j.*.a;", "let i = &mut x; let j = i; j.*.a = 1;", "let i = &mut x; let j = #m i.*;", "let i = &x; let j = #m i.*;",
	} {
		told(t, in(s))
	}
}

// P10.1: what stands in a Box, an Rc, an Arc, a Mutex is owned; in a Cell an int, a bool or a unit; in an Atomic an int.
func TestMakers(t *testing.T) {
	for _, s := range []string{
		"let i = box(1); i.* + 1;", "let i = box(x); i.*.a;", "box(box(()));", "box(s);", "box(x.a);", "#o box(r);", "#o box(m);", "#o box(k);", "box(#o box(r));", "box(#m x.b);", "let i = &x; #o box(i);",
		"let i = rc(x); i.*.a;", "rc(rc(1));", "#o rc(r);", "#o rc(m);", "let i = arc(true); if i.* { }", "#o arc(m);", "#o arc(r);",
		"let i = mutex(x); lock i as g { g.*.a = 1; }", "#o mutex(r);", "#o mutex(z);", "1 # + box(1);", "1 # + rc(1);", "1 # + arc(1);", "1 # + mutex(1);",
		"let i = cell(1); set(i, get(i) + 1);", "let i = cell(true); if get(i) { }", "let i = cell(()); set(i, ());",
		"# cell(x);", "# cell(r);", "# cell(o);", "# cell(cell(1));", "# cell(box(1));", "# cell(e);", "let i = &x.a; # cell(i);", "1 # + cell(1);",
		"let i = atomic(1); load(i) + 1;", "# atomic(true);", "# atomic(());", "# atomic(o);", "# atomic(c);", "1 # + atomic(1);",
	} {
		told(t, in(s))
	}
}

// P10.1: what a Box, a Mutex has is taken out of it.
func TestTakenOut(t *testing.T) {
	for _, s := range []string{
		"1 + unbox(box(1));", "let i = unbox(box(x)); i.a;", "unbox(#m x.b);", "# unbox(1);", "# unbox(x);", "# unbox(q);", "# unbox(u);", "# unbox(r);", "# unbox(c);", "# unbox(w);", "not unbox(box(true));",
		"open(u) + 1;", "let i = open(mutex(x)); i.a;", "# open(1);", "# open(c);", "# open(w);", "# open(box(1));", "# open(o);", "# open(q);", "# not open(u);",
	} {
		told(t, in(s))
	}
}

// P10.1: cells, counts, atomics, channels: what stands at the place, and what is put there.
func TestAtPlaces(t *testing.T) {
	for _, s := range []string{
		"get(c) + 1;", "not get(v);", "# get(x);", "# get(o);", "# get(x.a);", "# get(u);", "# get(x.d);", "# get(c.*);", "1 # + get(v);",
		"set(c, 1);", "set(v, 1 < 2);", "# set(c, true);", "# set(v, 1);", "# set(c, c);", "# set(x, 1);", "# set(o, 1);", "# set(x.d, 1);", "set(c, 1 # + set(c, 1));",
		"let i = clone(q); i.*.a;", "let i = clone(w); lock i.* as g { g.*.a = 1; }", "let i = clone(s); send(i, box(1));", "let i = clone(t); recv(i);", "clone(x.c);", "clone(r.*.c);",
		"# clone(x);", "# clone(c);", "# clone(r);", "# clone(u);", "# clone(o);", "# clone(x.b);", "# clone(x.d);", "# clone(w.*);", "# clone(x.a);", "# clone(e);", "1 # + clone(q);",
		"load(o) + 1;", "# load(c);", "# load(x.a);", "# load(o.*);", "# not load(o);", "store(o, 1);", "# store(o, true);", "# store(c, 1);", "# store(x.d, 1);", "1 # + store(o, 1);",
		"set(c, fetch(o, 1));", "# fetch(o, ());", "# fetch(u, 1);", "# fetch(c, 1);", "# fetch(x.d, 1);", "# not fetch(o, 1);",
		"send(s, box(1));", "# send(s, 1);", "# send(s, box(true));", "# send(t, box(1));", "# send(x, box(1));", "# send(x.d, box(1));", "let i = send(s, box(1)); set(c, # -i);",
		"let i = recv(t); i.a + 1;", "recv(t);", "# recv(s);", "# recv(x);", "# recv(t.*);", "1 # + recv(t);",
	} {
		told(t, in(s))
	}
}

// P10.1: what is put somewhere is asked ahead of the place.
func TestArgAheadOfPlace(t *testing.T) {
	for _, call := range []string{"set", "store", "fetch", "send"} {
		for _, place := range []string{"x", "x.d", "c", "o", "s", "r.*"} {
			told(t, in(call+"("+place+", #m x.b);"))
			told(t, in(call+"("+place+", #o box(r));"))
			told(t, in(call+"("+place+", 1 # + true);"))
		}
	}
}

// P10.1: calls: each Arg of the parameter's type.
func TestCalls(t *testing.T) {
	for _, s := range []string{
		"let i = two(1, x); match i: E { A => { } B(y) => { y.* = 1; } }", "# two(true, x);", "# two(1, r);", "# two(1, e);", "# two(x, 1);", "two(1 # + true, x);", "two(1, #m x.b);", "1 # + two(1, x);",
		"main() + 1;", "# not main();", "lent(&x.a, &mut x);", "lent(&x.a, m);", "lent(&m.*.a, &mut m.*);", "# lent(&mut x.a, &mut x);", "# lent(&x.a, &x);", "# lent(x.a, m);", "# lent(&x, m);",
		"# lent(&x.a, r);", "# lent(&x.a, &mut m);", "lent(&r.*.a, # &mut r.*);", "lent(# &x.d, m);", "lent(&q.*.a, # &mut q.*);", "# lent(&x.a, x);", "set(c, # -lent(&x.a, m));",
	} {
		told(t, in(s))
	}
	// Of itself, and of what stands behind it.
	told(t, "fn f(a: int) -> int { f(g(a)) } fn g(a: int) -> int { f(# g(true)) } fn main() -> int { f(0) }")
	// A parameter may be called as a function is.
	told(t, "fn f(f: int) -> bool { f(f) } fn main() -> int { # f(f(1)) }")
}

// P10.1: structs, enums: each Arg of the field's type, the payload's.
func TestStructsAndEnums(t *testing.T) {
	for _, s := range []string{
		"let i = S { a = 1, b = box(2), c = q }; i.a + i.b.* + i.c.*.a;", "# S { a = true, b = box(2), c = q };", "# S { a = 1, b = 2, c = q };", "# S { a = 1, b = box(2), c = x };",
		"S { a = 1, b = box(# -true), c = q };", "S { a = 1, b = #m x.b, c = q };", "# S { a = 1, b = box(true), c = q };", "let i = O { }; i;", "1 # + O { };", "two(1, S { a = 1, b = box(1), c = q });", "# two(1, O { });",
		"let i = E.A; match i: E { A => { } B(y) => { } }", "let i = E.B(box(1)); i;", "# E.B(1);", "# E.B(box(true));", "# E.B(e);", "# E.B(x);", "E.B(#m x.b);", "1 # + E.A;", "E.B(box(1 # + ()));", "# not E.B(box(1));",
	} {
		told(t, in(s))
	}
	told(t, "enum E { A, B, C(int), D(F), G(Box<E>) } enum F { A(int), B } fn f() -> E { E.G(box(E.D(F.A(1)))) } fn g() -> E { # E.D(E.A) } fn h() -> E { # F.B } fn main() -> int { 0 }")
	told(t, "struct A { a: B, b: int } struct B { a: int, b: bool } fn f() -> A { A { a = B { a = 1, b = true }, b = 2 } } "+
		"fn g() -> A { A { a = # B { a = true, b = 1 }, b = 2 } } fn main() -> int { let x = f(); x.a.a }")
}
