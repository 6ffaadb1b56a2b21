package borrow

import "testing"

// P14.1: behind an if holds what holds behind each of its blocks, and each loan of either.
func TestIfs(t *testing.T) {
	all(t,
		"if true { drop x; } else { } #u x; y;", "if true { } else { drop x; } #u x;", "if true { drop x; } else { drop x; } #u x;", "if true { drop x; } x = box(1); x;", "drop x; if true { x = y; } else { x = y; } x; #u y;", "drop x; if true { x = y; } else { } #u x; #u y;", "drop x; drop y; if true { x = box(1); } else { y = box(2); } #u x; #u y;",
		"if true { x; #u x; } else { x; #u x; } #u x;", "if true { x; } if true { #u x; }", "if eat(x) < 1 { #u x; } else { #u x.*; } #u x;", "if x.* < eat(x) { }", "if true { if false { x; } else { y; } #u x; #u y; } else { x; } #u x; #u y;", "if true { let u = box(1); } else { let v = box(1); v; #u v; }",
		"if true { let u = &x; #l x; } else { let v = &mut x; #l x; } #u x;", "if true { let u = &x; } else { let v = &mut y; } x; y;", "let u = &x; if true { #l x = y; } else { let v = #l &mut x; } let w = &x;",
		// Loans that a block leaves are those of a spawn in it.
		"scope { if true { spawn (p = &x) { } } else { } x.*; #l x; #u x.*; }", "scope { if true { spawn (p = &mut x) { } } else { spawn (p = &mut y) { } } #l x.*; #l y.*; } x; y;", "scope { if true { } else { spawn (p = &mut x) { } } #l x.*; }", "scope { if true { spawn (p = &x) { } } else { spawn (p = &mut x) { } } let u = #l &x; }", "scope { if true { spawn (p = &s.b) { } } else { spawn (p = &mut s.c) { } } s.a = 1; s.b.*; #l s.b = x; #l s.c.e; } s;",
	)
}

// P14.1: a loop's condition and block are asked with all that may hold there, however often they were gone; behind it holds what holds behind the condition.
func TestWhiles(t *testing.T) {
	all(t,
		"while true { #u x; } #u x;", "while true { x = box(1); x; } #u x;", "while true { x; x = box(1); } x;", "while true { #u x.*; #u x; } y;", "while x.* < 1 { y.* = 2; } x; y;", "while #u x.* < 1 { #u x; } #u x;", "while eat(#u x) < 1 { } #u x;", "while eat(x) < 1 { #u x.*; x = box(1); x.*; } #u x;", "while eat(#u x) < 1 { #u x.*; } #u x;",
		"while true { if true { #u x; } else { x = box(1); } } #u x;", "while true { if false { x = box(1); } else { } #u x; }", "while true { if true { drop x; } else { drop x; } x = box(2); } x;",
		"while true { let u = box(1); u; #u u; }", "while true { let u = #u &x; #u x; } #u x;", "while true { let u = &mut x; u.*.* = 1; } x;", "while true { let u = x; x = u; #u u; } x;", "while true { { let u = &mut x; } poke(&mut x); } x;", "let u = &x; while x.* < 1 { #l x.* = 2; #l x = box(1); }",
		// What is not as asked is done all the same: only the first one of the row is ever not set.
		"let a = box(1); let b = box(2); let c = box(3); while true { a; a = b; b = #u c; }", "let a = box(1); let b = box(2); let c = box(3); while true { c; c = b; b = #u a; }", "let a = box(1); let b = box(2); while true { if true { #u a; } else { a = #u b; } }",
		// What only the block makes set may not be behind the loop.
		"drop x; while true { x = box(1); } #u x;",
		"scope { while true { spawn (p = #l &mut x) { } } #l x.*; } x;", "scope { while true { spawn (p = &x) { } x.*; } let u = #l &mut x; } let v = &mut x;", "scope { while true { #l x = box(1); spawn (p = &x) { } } }", "scope { while #l x.* < 1 { spawn (p = #l &mut x) { } } }", "while true { scope { spawn (p = &mut x) { } #l x.*; } x.*; } x;", "scope { while true { if true { spawn (p = #l &x) { } } else { spawn (p = #l &mut x) { } } } }",
	)
}

// P14.1: loops within one another.
func TestWhilesWithin(t *testing.T) {
	all(t,
		"while true { while true { #u x; } }", "while true { while true { } #u x; } #u x;", "while true { x = box(1); while true { #u x; } }", "while true { while true { #u x; } x = box(1); } x;", "while true { while true { x; x = box(1); } x; x = box(2); } x;", "while true { #u x; while true { x = box(1); } }",
		"while true { #u x.*; while true { #u y.*; #u x; } while true { #u x.*; #u y; } }", "while #u x.* < #u y.* { while #u x.* < #u y.* { #u x; } while #u x.* < #u y.* { #u y; } }", "while true { while eat(x) < 1 { x = box(1); } x = box(2); } x;", "while true { while eat(#u x) < 1 { x = box(1); } } #u x;",
		"let a = box(1); while true { while true { while true { a; a = #u x; } x = #u y; } y = box(1); a.*; }", "scope { while true { while true { spawn (p = #l &mut x) { } } #l x.*; } }", "while true { scope { while true { spawn (p = #l &mut x) { } } #l x.*; } x.*; } x;", "while true { let u = box(1); while true { #u u; } }", "while true { let u = box(1); while true { u = box(2); u; } #u u; }",
	)
}

// P14.1: a match moves its variable; each arm has its payload; behind it holds what holds behind each arm.
func TestMatches(t *testing.T) {
	all(t,
		"match e: E { A => { } B(b) => { } C(c) => { } } #u e;", "drop e; #u match e: E { A => { } B(b) => { } C(c) => { } }", "let u = &e; #l match e: E { A => { #u e; } B(b) => { b; #u b; } C(c) => { c; c; } } #u e;", "let u = &mut e; #l match e: E { A => { } B(b) => { } C(c) => { } }", "match e: E { A => { } B(b) => { b; #u b; } C(c) => { c + c; drop c; #u c; } }", "match e: E { A => { #u e; } B(b) => { e = E.B(b); } C(c) => { } } #u e;", "match e: E { A => { e = E.A; } B(b) => { e = E.B(b); } C(c) => { e = E.C(c); } } e; #u e;",
		"match e: E { C(c) => { x; } B(b) => { y; } A => { } } #u x; #u y; s;", "drop x; match e: E { C(c) => { x = box(c); } B(b) => { x = b; } A => { x = y; } } x; #u y;", "drop x; match e: E { C(c) => { x = box(c); } B(b) => { } A => { x = y; } } #u x;", "match e: E { A => { let u = &mut x; #l x; } B(b) => { let u1 = &b; #l b; #u b; x; #u x; } C(c) => { let v = &mut c; #l c; } } #u x;",
		"scope { match e: E { A => { spawn (p = &x) { } } B(b) => { spawn (p = &mut y) { } } C(c) => { spawn (p = c) { } } } x.*; #l x; #l y.*; } y;", "let a = never(); match a: N { } #u a; x;", "let a = never(); let u = &a; #l match a: N { } #u match a: N { } x; #u x;", "while true { let a = never(); match a: N { } }", "let a = never(); while true { #u match a: N { } }", "while true { #u match e: E { A => { } B(b) => { } C(c) => { e = E.A; } } }",
		"match e: E { B(b) => { let a = E.B(b); match a: E { B(b1) => { b1; #u a; #u e; #u b; } C(c1) => { } A => { } } #u a; } C(c) => { } A => { } }",
	)
}
