package borrow

import "testing"

// P14.1: what a spawn's list lends is lent till the scope's end, whatever block it stands in.
func TestSpawnsLend(t *testing.T) {
	all(t,
		"scope { spawn (p = &x) { } x.*; #l x = box(1); } x = y; x;", "scope { spawn (p = &mut x) { } #l x.*; } x.*;", "scope { { spawn (p = &mut x) { } } #l x.*; } x;", "scope { spawn (p = &x, q = &x) { } spawn (p = &x, q = #l &mut x) { } } x;", "scope { spawn (p = &mut x, q = #l &x) { } }", "scope { spawn (p = &mut x) { } spawn (p = #l &mut x) { } spawn (p = #l x.*) { } }", "scope { spawn (p = &mut x.*) { } #l x; #u x.*; }",
		"scope { spawn (p = &mut s.a, q = &mut s.b, o = &s.c.d) { } #l s.a; s.c.d.*; #l s.c = T { d = x, e = 2 }; s.c.e = 3; } s; #u x;", "scope { spawn (p = x) { } #u x; } #u x;", "scope { spawn (p = x, q = #u x, o = #u &x) { } }", "scope { spawn (p = &x, q = #l x) { } #u x; }", "scope { spawn (p = peek(&x), q = &x, o = peek(&x)) { } spawn (p = poke(#l &mut x)) { } } poke(&mut x);", "scope { spawn (p = mixed(&mut x, #l x.*), q = &mut x, o = poke(#l &mut x)) { } }",
		"scope { drop x; spawn (p = #u &x) { } #l x = box(1); } x;", "let u = &x; scope { spawn (p = &x) { } spawn (p = #l &mut x) { } } #l x;", "let u = &mut x; scope { spawn (p = #l &x) { } spawn (p = &u.*) { } u.*.*; #l u; } #u u;", "scope { spawn (p = &x) { } } scope { spawn (p = &mut x) { } } x;", "let u = &x; scope { let v = &x; spawn (p = &x) { } #l x.* = 1; } #l x.* = 2;",
		// Scopes within one another: the loans of each end with it.
		"scope { scope { spawn (p = &mut x) { } #l x.*; } x.*; spawn (p = &mut y) { } scope { #l y.*; } #l y.*; } y.*;", "scope { spawn (p = &x) { } scope { spawn (p = &x) { } } #l x.* = 1; } x.* = 1;", "while true { scope { spawn (p = &mut x) { } } } x;",
	)
}

// P14.1: a reference is handed over only of a variable that is less deep than the scope's block.
func TestTooSoon(t *testing.T) {
	all(t,
		"scope { let a = box(1); spawn (p = #a &a) { } spawn (p = #a &mut a) { } }", "let a = box(1); scope { spawn (p = &a) { } }", "scope { { let a = box(1); spawn (p = #a &a) { } } }", "{ let a = box(1); scope { spawn (p = &a) { } } a; }", "scope { let a = box(1); scope { spawn (p = &a) { } spawn (p = a.*) { } } a; }", "scope { let a = box(1); { scope { spawn (p = &mut a.*) { } } } spawn (p = #a &a.*) { } }",
		"scope { chan<int>(1) as i, j; spawn (p = #a &i, q = j) { } }", "scope { let S { i, j, k } = s; spawn (p = #a &k.d, q = i, o = j) { } }", "match e: E { A => { } B(b) => { scope { spawn (p = &b) { } } } C(c) => { scope { spawn (p = &mut c) { } #l c; } } }", "scope { match e: E { A => { } B(b) => { spawn (p = #a &b) { } } C(c) => { spawn (p = c, q = #a &c) { } } } }",
		"let c = mutex(1); lock c as g { scope { spawn (p = &g.*) { } #l g; } #u g; }", "let c = mutex(1); scope { lock c as g { spawn (p = #a &mut g.*) { } } }", "let c = mutex(1); scope { lock c as g { spawn (p = #a g) { } } }", "let c = mutex(1); lock c as g { scope { spawn (p = g) { } #u g; } }", "if true { let a = box(1); scope { spawn (p = &a) { } } } else { let b = 1; scope { let d = 2; spawn (p = &b, q = #a &d) { } } }", "while true { let a = box(1); scope { spawn (p = &mut a) { } } a; }",
		// Of what is moved or copied it isn't asked, unless it is a reference.
		"scope { let a = box(1); spawn (p = a, q = n) { } let b = 2; spawn (p = b) { } spawn (p = b) { } }", "scope { spawn (p = r, q = m) { } spawn (p = r, q = #u m) { } } r.*.*; #u m.*.*;", "scope { let u = r; spawn (p = #a u, q = u.*.*) { } }", "scope { let u = m; spawn (p = #a u) { } u.*.* = 1; spawn (p = #a u) { } }", "let u = r; scope { spawn (p = u) { } }", "let u = &r; scope { spawn (p = u, q = u.*) { } let v = &r; spawn (p = #a v, q = #a v.*, o = v.*.*.*) { } }", "let u = &mut r; scope { spawn (p = u.*) { } u; #u u.*; }",
		"scope { let u = m; spawn (p = #a &u.*) { } spawn (p = #a &mut u.*.*) { } }", "scope { let u = &x; spawn (p = #a u) { } } x;", "let u = &mut x; scope { spawn (p = u) { } #u u; #l x; }", "scope { drop m; spawn (p = #u m) { } drop r; spawn (p = #u r, q = #u &r) { } }", "scope { let a = box(1); drop a; spawn (p = #a &a) { } let u = r; drop u; spawn (p = #a u) { } }", "let v = &mut m; scope { spawn (p = #l m, q = #u &m) { } }",
		// Fields and payloads of what lives long enough.
		"scope { spawn (p = &s.c.d.*) { } }", "scope { let a = s; spawn (p = #a &a.c.d.*, q = #a &mut a.b) { } }",
	)
}

// P14.1: what a list would lend of a variable that dies too soon is neither used nor lent: behind the spawn, and further on in its list, it may be all that it might be ahead of it.
func TestTooSoonLendsNothing(t *testing.T) {
	all(t,
		"scope { let a = box(1); spawn (p = #a &a) { } a.*; a; #u a; }", "scope { let a = box(1); spawn (p = #a &a) { } let b = a; #u a; }", "scope { let a = box(1); spawn (p = #a &a) { } drop a; a = box(2); a.* = 3; }", "scope { let a = box(1); spawn (p = #a &a) { } let u = &mut a; #l a.*; }", "scope { let a = box(1); spawn (p = #a &a) { } poke(&mut a); eat(a); }", "scope { let a = E.A; spawn (p = #a &a) { } match a: E { A => { } B(b) => { } C(c) => { } } #u a; }", "scope { let a = mutex(1); spawn (p = #a &mut a) { } lock a as g { g.* = 2; } drop a; }", "scope { let a = s; spawn (p = #a &mut a.b) { } a.b.* = 1; let S { i, j, k } = a; }",
		"scope { let a = box(1); spawn (p = #a &mut a) { } a.*; let u = &a; peek(&a); #l a.* = 2; }", "scope { let a = box(1); spawn (p = #a &mut a) { } a = box(2); a; }", "scope { let a = box(1); spawn (p = #a &mut a.*) { } drop a; #u a.*; }",
		// Further on in the list, and in that of another spawn.
		"scope { let a = box(1); spawn (p = #a &mut a, q = #a &a, o = a.*, n1 = a) { } #u a; }", "scope { let a = box(1); spawn (p = #a &mut a, q = peek(&a), o = poke(&mut a)) { } spawn (p = #a &a) { } spawn (p = a) { } #u a; }", "scope { let a = box(1); spawn (p = a, q = #a &a) { } a = box(2); a; }",
		// In whatever block, and round after round.
		"scope { { let a = box(1); spawn (p = #a &mut a) { } a.*; a; #u a; } }", "scope { let a = box(1); { spawn (p = #a &mut a) { } a.*; } a; }", "scope { let a = box(1); if true { spawn (p = #a &a) { } } else { spawn (p = #a &mut a) { } } a.* = 2; a; }", "scope { let a = box(1); match e: E { A => { spawn (p = #a &mut a) { } } B(b) => { spawn (p = #a &mut b) { } b; } C(c) => { } } a; }", "scope { let a = box(1); while a.* < 1 { spawn (p = #a &mut a) { } a = box(2); } a; }", "while true { scope { let a = box(1); spawn (p = #a &mut a) { } a; } }", "let c = mutex(1); scope { lock c as g { spawn (p = #a &mut g.*) { } g.* = 2; g; #u g; } }",
		// Scopes within one another.
		"scope { let a = box(1); spawn (p = #a &mut a) { } scope { spawn (q = &mut a) { } #l a.*; } a; }", "scope { scope { let a = box(1); spawn (p = #a &mut a) { } a; } let a1 = x; spawn (p = #a &a1) { } a1; }", "scope { spawn (p = x) { scope { let a = box(1); spawn (q = #a &mut a) { } a; #u a; } } }",
		// Where nothing is set, or what stands there is lent by others, that isn't told of it either, and these stay as they are.
		"scope { let a = box(1); drop a; spawn (p = #a &mut a) { } a = box(2); a; }", "scope { let a = box(1); let u = &a; spawn (p = #a &mut a) { } a.*; #l a.* = 2; }", "scope { let a = box(1); let u = &mut a; spawn (p = #a &a) { } #l a.*; }", "scope { let a = box(1); { let u = &mut a; spawn (p = #a &a) { } #l a.*; } a.*; a; }",
	)
}

// P14.1: nor is a reference of a variable that dies too soon moved, or read.
func TestTooSoonMovesNothing(t *testing.T) {
	all(t,
		"scope { let u = m; spawn (p = #a u) { } u; #u u; }", "scope { let u = m; spawn (p = #a u, q = #a u) { } u.*.* = 1; drop u; }", "scope { let u = r; drop u; spawn (p = #a u) { } #u u; }", "scope { let u = m; let v = &u; spawn (p = #a u) { } #l u; }",
	)
}

// P14.1: what lives long enough is lent till the scope's end, whether it might be or not, and whatever else of the list dies too soon.
func TestLongEnoughLends(t *testing.T) {
	all(t,
		"scope { let a = box(1); spawn (p = #a &mut a, q = &mut x) { } a.*; #l x.*; } x;", "scope { let a = box(1); spawn (p = &x, q = #a &a) { } a; #l x; #u x; }", "drop x; scope { spawn (p = #u &mut x) { } #l x = box(1); #l x.*; } x;", "let u = &x; scope { spawn (p = #l &mut x) { } #l x.*; } x.*;", "let a = box(1); scope { spawn (p = &a) { } #l a; #u a; }", "scope { let a = box(1); scope { spawn (p = &mut a) { } #l a.*; } spawn (p = #a &mut a) { } a.*; }",
	)
}

// P14.1: a spawn's body counts for itself, with its list's names set and nothing lent; its faults come behind those of what it stands in.
func TestBodiesOfSpawns(t *testing.T) {
	all(t,
		"scope { spawn (p = x) { p; #u1 p; } #u x; }", "scope { spawn (p = &x) { let a = p; let b = p; p.*.*; } } x;", "scope { spawn (p = &mut x) { let a = p; let b = #u p; a.*.* = 2; } }", "scope { spawn (p = &mut x) { let a = &mut p.*; #l p.*.* = 2; } } x;", "scope { spawn (p = n) { p; drop p; #u p; p = 2; p; } }", "scope { spawn (p = s) { let S { i, j, k } = p; i; i; j; #u j; #u p.a; } }", "let c = arc(mutex(1)); scope { spawn (p = clone(c)) { lock p.* as g { #l p; } #u p; } c; }",
		"drop x; scope { spawn (x = y) { x; #u1 x; } #u x; } #u y;", "scope { let a = x; spawn (x = 1) { x; x; drop x; } a; }", "let u = &mut x; scope { spawn (x = 2) { let u = &x; x; #l1 x = 3; } #l x.*; }", "scope { spawn (p = E.B(x)) { match p: E { A => { } B(b) => { b; #u1 b; } C(c) => { c; c; } } #u1 p; } #u x; }", "scope { spawn () { let a = box(1); a; while true { #u1 a; } } x; #u x; }",
		"scope { spawn (p = x) { while true { #u1 p; } #u1 p; } while true { #u y; } #u y; }", "scope { spawn (p = 1) { scope { spawn (q = &p) { } spawn (q = #l &mut p) { } } p = 2; } }", "scope { spawn (p = r) { scope { spawn (q = p) { } let o = p; spawn (q = #a o) { } } } }", "scope { spawn (p = &x) { scope { let a = 1; spawn (q = #a &a, o = p) { } } } }", "scope { spawn (p = x) { { let u = &p; scope { spawn (q = &p, o = u) { } #l p; } #u p; } } }",
		// A body within a loop counts once, for itself.
		"while true { scope { spawn (p = 1) { let a = box(p); a; #u a; } } }", "let a = box(1); while true { scope { spawn (p = #u a) { p; } } }", "while #u x.* < 1 { while true { scope { spawn (p = #u x) { p; #u1 p; } } #u x.*; } #u x.*; }",
	)
}

// P14.1: a body's own faults, then those of the first spawn in it and of all within that, then of the next one.
func TestOrderOfSpawns(t *testing.T) {
	all(t,
		"drop x; scope { spawn (p = y) { p; #u1 p; } #u x; spawn (p = #u x) { drop p; #u2 p; } } #u y;",
		"scope { spawn (p = 1) { drop p; scope { spawn (q = #u1 p) { drop q; #u2 q; scope { spawn (o = #u2 q) { drop o; #u3 o; } spawn (o = 1) { drop o; #u4 o; } } #u2 q; } #u1 p; } #u1 p; scope { spawn (q = 1) { drop q; #u5 q; } } } spawn (p = 2) { drop p; #u6 p; } } drop x; #u x;",
		"if true { scope { spawn (p = 1) { drop p; #u1 p; } } } else { scope { spawn (p = 1) { drop p; #u2 p; } } } drop x; #u x; match e: E { C(c) => { scope { spawn (p = 1) { drop p; #u3 p; } } } A => { scope { spawn (p = 1) { drop p; #u4 p; } } } B(b) => { while true { scope { spawn (p = 1) { drop p; #u5 p; } } } } } #u x; { let a = mutex(1); lock a as g { scope { scope { spawn (p = 1) { drop p; #u6 p; } } spawn (p = 1) { drop p; #u7 p; } } } } #u x;",
	)
	told(t, "fn g(x: Box<int>) -> int { scope { spawn (x = x) { drop x; #u1 drop x; } } #u drop x; #u x.* } fn main() -> int { let x = box(1); scope { spawn (x = 1) { drop x; #u3 drop x; } } drop x; #u2 x.* }")
}
