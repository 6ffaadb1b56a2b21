package typing

import (
	"slices"
	"strings"
	"testing"

	"weftway/api"
)

// P10.1: what a let makes has the expression's type; a struct's fields, taken apart, have theirs.
func TestLets(t *testing.T) {
	for _, s := range []string{
		"let i = 1; i + 1;", "let i = true; # -i;", "let i = (); # -i;", "let i = &r; i.*.*.a; let j = #m i.*.*;", "let i = &mut m; i.*.*.a = 1;", "let i = x; let j = i; j.b.* = 1;",
		"let S { i, j, l } = x; i + j.* + l.*.a;", "let S { i, j, l } = x; i # + j;", "let S { i, j, l } = x; j = box(1); # l = j;", "let O { } = O { };",
		"let S { i, j, l } = S { a = 1, b = box(2), c = q }; i = j.*;", "let S { i, j, l } = S { a = 1, b = box(2), c = #m x.c };",
		"# let S { i, j, l } = O { };", "# let O { } = x;", "# let S { i, j, l } = r;", "# let S { i, j, l } = q;", "# let O { } = e;", "# let S { i, j, l } = 1;",
		"# let O { } = box(O { });", "let O { } = unbox(box(O { }));", "let S { i, j, l } = #m m.*;",
	} {
		told(t, in(s))
	}
}

// P10.1: an assignment's place is of an owned type, may be written, and is of the expression's type.
func TestAssignments(t *testing.T) {
	for _, s := range []string{
		"x.a = 1;", "x = x;", "x.b = box(1);", "x.b.* = 1;", "x.c = q;", "m.*.a = 1;", "m.* = x;", "m.*.b.* = 2;",
		"c = cell(1);", "e = E.A;", "n = n;", "o = atomic(1);", "s = clone(s);", "t = t;", "q = clone(q);", "w = w;", "u = mutex(2);",
		"# x.a = true;", "# x = 1;", "# x = r;", "# x.b = 1;", "# x.b.* = box(1);", "# m.* = r;", "# m.*.a = x;", "# c = 1;", "# e = x;", "# o = 1;", "# v = c;", "# q = w;", "# s = t;",
		"# x.d = 1;", "# x.* = 1;", "# c.* = 1;", "# o.* = 1;", "# u.* = 1;", "# e.a = 1;", "# r.a = 1;",
		"# r.*.a = 1;", "# r.* = x;", "# x.c.* = x;", "# x.c.*.a = 1;", "# q.*.a = 1;", "# w.* = mutex(x);", "# k.*.*.a = 1;", "# z.*.*.a = 1;", "# r.*.b.* = 1;", "# r.*.a = true;",
		// What isn't owned comes first, whatever else is wrong.
		"#o r = r;", "#o m = m;", "#o r = 1;", "#o k = k;", "#o k.* = m;", "#o k.* = 1;", "#o z = z;", "#o z.* = r;", "#o z.* = x;", "let i = &r; #o i.* = r;", "let i = &mut r; #o i.* = r;",
		// The expression is asked ahead.
		"r = #m x.b;", "x.d = 1 # + true;", "r.*.a = #o box(r);",
	} {
		told(t, in(s))
	}
}

// P10.1: conditions are bools; what stands behind them comes later.
func TestConditions(t *testing.T) {
	for _, s := range []string{
		"if true { } else { }", "if get(v) { x.a = 1; } else { x.a = 2; }", "while 1 < x.a { x.a = x.a - 1; }",
		"# if 1 { }", "# if x { } else { }", "# while 1 { }", "# while () { }", "# if r { }", "# while box(true) { }", "# if v { }",
		"if # not 1 { }", "while 1 # + true { }", "# if 1 { -true; }", "# while 1 { x.d; }",
		"if true { #m x.b; }", "if true { } else { #m x.b; }", "if true { # -true; } else { -true; }", "while true { # x.d; }", "if true { } else { if true { # x.d; } } x.d;",
		"if true { let i = 1; i + 1; } else { let j = true; # -j; }", "{ # x.d; }", "{ let i = x; { i.a; # i.d; } } r.d;",
	} {
		told(t, in(s))
	}
}

// P10.1: a match's variable is of the enum; what an arm makes has its payload's type.
func TestMatches(t *testing.T) {
	for _, s := range []string{
		"match e: E { A => { } B(y) => { y.* = 1; } }", "match e: E { B(y) => { # y = 1; } A => { } }", "match e: E { A => { } B(y) => { y = box(2); y.* + 1; } }", "match n: N { }",
		"let i = E.B(box(1)); match i: E { A => { # -i; } B(y) => { -y; } }",
		"# match x: E { A => { } B(y) => { } }", "# match n: E { A => { } B(y) => { } }", "# match e: N { }", "# match r: E { A => { } B(y) => { } }", "# match o: N { }",
		"# match x: E { A => { -true; } B(y) => { -true; } }", "let i = &e; # match i: E { A => { } B(y) => { } }", "let i = box(e); # match i: E { A => { } B(y) => { } }",
		"match e: E { A => { # -true; } B(y) => { y.d; } }", "match e: E { B(y) => { # y.d; } A => { x.d; } }", "match e: E { A => { let y = 1; -y; } B(i) => { # -i; } }",
	} {
		told(t, in(s))
	}
	told(t, "enum E { A(int), B(bool), C(F), D(Box<E>), G } enum F { A } fn f(e: E) -> int { match e: E { "+
		"D(d) => { let i = unbox(d); match i: E { A(a) => { a + 1; } B(b) => { not b; } C(c) => { c = F.A; } D(l) => { l = d; } G => { } } } "+
		"G => { } A(h) => { -h; } B(j) => { # -j; } C(k) => { -k; } } 0 } fn main() -> int { 0 }")
}

// P10.1: a spawn's body has its Names alone, with their expressions' types; a fault in it is the function's.
func TestSpawns(t *testing.T) {
	for _, s := range []string{
		"spawn (p = &x, l = r, i = 1, j = x) { let y = p.*.a + l.*.a + i + j.a; }", "spawn (p = 1) { # p = true; }", "spawn (p = &x) { # p.*.a = 1; }", "spawn (p = &mut x) { p.*.a = 1; }",
		"spawn (p = # &mut r.*) { p.d; }", "spawn (p = #m x.b, l = x.d) { p.d; }", "spawn (p = 1, l = # x.d) { p.d; }",
		"spawn (x = true) { # -x; } -x;", "spawn (x = 1) { x + 1; let r = 2; r + x; } x.a; r.*.a;", "spawn () { let x = true; if x { } } x.a + 1;",
		"spawn () { } spawn (p = x) { # -p; }", "spawn (p = r) { scope { spawn (p = p.*.a, l = p) { p + l.*.a; # -l; } } }", "# -x; spawn () { -true; }", "spawn (p = clone(w)) { lock p.* as g { g.*.a = 1; #m g.*.b; } }",
	} {
		told(t, in("scope { "+s+" }"))
	}
}

// P10.1: a lock's place is a Mutex's; the variable is a &mut of what that has.
func TestLocks(t *testing.T) {
	for _, s := range []string{
		"lock u as g { g.* = g.* + 1; }", "lock w.* as g { g.*.a = 1; g.* = x; }", "lock u as g { #o g = g; }", "lock u as g { # -g; }", "lock w.* as g { #m g.*; }", "lock w.* as g { # g.*.c.*.a = 1; }", "lock u as g { let i = g; i.* = 1; }",
		"# lock c as g { }", "# lock x as g { }", "# lock w as g { }", "# lock r as g { }", "# lock x.d as g { }", "# lock u.* as g { }", "# lock q.* as g { }", "# lock o as g { -true; }",
		"let i = &w; lock i.*.* as g { g.*.a = 1; } # lock i.* as h { }", "let i = &mut u; lock i.* as g { lent(&g.*, m); # lent(g, m); }",
	} {
		told(t, in(s))
	}
}

// P10.1: a channel's ends are a Sender and a Receiver of its type.
func TestChannels(t *testing.T) {
	for _, s := range []string{
		"chan<int>(1) as i, j; send(i, recv(j)); # send(i, true);", "chan<int>(1) as i, j; # send(j, 1);", "chan<int>(1) as i, j; # recv(i);", "chan<S>(8) as i, j; let l = recv(j); send(i, l); l.a + 1;",
		"chan<Sender<int>>(1) as i, j; chan<int>(2) as l, p; send(i, l); send(i, clone(l)); let y = recv(j); send(y, 1); # send(i, p);",
		"chan<Box<S>>(1) as i, j; send(i, box(x)); # send(i, x);", "chan<int>(1) as i, j; # s = i;", "chan<Box<int>>(1) as i, j; s = i; # t = j;",
	} {
		told(t, in(s))
	}
}

// P10.1: what asks for nothing.
func TestAsksForNothing(t *testing.T) {
	for _, s := range []string{"drop x;", "drop r; drop m; drop k; drop o; drop n; drop s;", "x;", "r;", "m;", "();", "scope { }", "{ }", "{ { scope { { x; } } } }", "scope { # x.d; }", "drop x; # x.d;"} {
		told(t, in(s))
	}
}

// P10.1: the last expression has the result's type; its own place, if it hasn't.
func TestResults(t *testing.T) {
	for _, s := range []string{
		"fn f() -> bool { # 1 }", "fn f() -> int { # () }", "fn f() -> unit { () }", "fn f(x: S) -> S { x }", "fn f(x: &S) -> S { # x }", "fn f(x: S) -> Box<int> { #m x.b }", "fn f(x: S) -> Box<int> { # x }", "fn f(x: S) -> Box<S> { box(x) }",
		"fn f(x: S) -> int { x.a + 1 }", "fn f(x: S) -> bool { x.a # + 1 }", "fn f() -> bool { 1 # + true }", "fn f(x: S) -> int { x.a = 2; # x }", "fn f() -> int { let i = 1; i }", "fn f() -> int { let i = true; # i }", "fn f(x: &S) -> int { #o box(x) }",
		"fn f() -> S { f() }", "fn f() -> S { S { a = 1, b = box(2) } }", "fn f() -> E { # S { a = 1, b = box(2) } }", "fn f() -> E { E.A }", "fn f() -> bool { # g() } fn g() -> int { 0 }", "fn f(x: Rc<S>) -> Rc<S> { clone(x) }", "fn f(x: Rc<S>) -> Arc<S> { # clone(x) }",
		"fn f(x: &S) -> int { x.*.b.* }", "fn f() -> bool { # -1 }", "fn f() -> bool { # -true }",
	} {
		told(t, "struct S { a: int, b: Box<int> } enum E { A } fn main() -> int { 0 } "+s)
	}
	told(t, "fn main() -> int { # true }")
	told(t, "fn main() -> int { main() }")
}

// P10.1: of each function its first fault alone, in the order of the items.
func TestFirstOfEach(t *testing.T) {
	for _, s := range []string{
		"fn a() -> int { # true } fn b() -> int { 0 } fn c() -> int { # -true; true } fn main() -> int { # () }",
		"fn main() -> int { # -true; -true; () }",
		"struct S { } fn main() -> int { let x = S { }; x # + 1; x + 1; true } enum E { } fn z() -> E { # S { } } fn a() -> S { S { } }",
		"fn main() -> int { { # -(); } -(); () } fn f(x: int) -> int { # not x; not x; 0 } fn g() -> int { g() }",
		"fn main() -> int { scope { spawn () { # -(); } spawn () { -(); } } 0 } fn f() -> int { # true }",
	} {
		told(t, s)
	}
	// In that of the program, whatever their places are.
	p := read(t, "fn a() -> int { true } fn b() -> int { () } fn main() -> int { 0 }")
	slices.Reverse(p.Items)
	want := []api.Fault{{Err: api.ErrType, At: 39}, {Err: api.ErrType, At: 16}}
	if got := Check(p); !slices.Equal(got, want) {
		t.Error(got)
	}
}

// P10.1: statements in order, each one's Exprs in order, Args ahead of itself, then the statement, then Body, Else, Arms; then the last expression.
func TestOrder(t *testing.T) {
	const text = "{ !; } let i = two(! + !, S { a = !, b = box(! * (!)), c = q }); if ! < ! { !; } else { !; } while 0 == ! { !; } match e: E { B(y) => { !; } A => { !; } } " +
		"scope { spawn (p = !, l = !) { !; } !; } lock u as g { !; } x.a = !; set(c, !); set(c, ! / !); let S { f, g1, h } = S { a = !, b = box(!), c = q }; f = !; send(s, box(!)); !;"
	parts := strings.Split(text, "!")
	// Each of these is wrong, from the one marked on.
	for first := range parts {
		s := parts[0]
		for i, part := range parts[1:] {
			switch {
			case i < first:
				s += "-1"
			case i == first:
				s += "# -true"
			default:
				s += "-true"
			}
			s += part
		}
		told(t, in(s))
	}
	for _, s := range []string{
		// Args ahead of itself.
		"(1 # + true) + false;", "# two(r, x);", "two(r, #m x.b);", "# S { a = true, b = true, c = true };", "S { a = true, b = 1 # + true, c = true };", "box(box(#o box(r)));", "not (1 < (2 # + true));", "E.B(-(# -true));",
		// An expression ahead of its statement, and that ahead of what is in it.
		"if -(# -true) { }", "# if -1 { -true; }", "# match x: E { A => { -true; } B(y) => { } }", "# lock x as g { -true; }", "scope { spawn (p = # -true) { -true; } }", "x.d = # -true;", "let O { } = # -true;", "# let O { } = x; -true;",
		// An assignment's place behind its expression, of others behind the Arg.
		"x.d = #m x.b;", "set(x.d, #m x.b);", "# set(x.d, 1); x.b;",
	} {
		told(t, in(s))
	}
}
