package borrow

import (
	"strings"
	"testing"
)

// P14.1: what is copied is read, and stays set; what isn't is moved.
func TestCopiedOrMoved(t *testing.T) {
	all(t,
		"let a = n; let b = n; n + n;", "let a = r; let b = r; r.*.*;", "let a = true; let b = a; let c = a;", "let a = (); a; a;", "let a = &r; let b = a; a.*.*.*;",
		"let a = x; let b = #u x;", "x; #u x;", "let a = s; let b = #u s;", "let a = e; let b = #u e;", "let a = m; let b = #u m;", "m.*.*; m; #u m.*.*;", "let c = cell(1); c; #u c;", "let c = rc(1); c; #u c;", "let c = arc(1); c; #u c;",
		"let c = mutex(1); c; #u c;", "let c = atomic(1); c; #u c;", "chan<int>(1) as a, b; a; b; #u a; #u b;", "let a = &mut m; a; #u a;", "let a = &mut r; a.*.*.*; a; #u a.*;",
		"s.a + s.a; s.b.* + s.b.*;", "let a = s; #u s.a + #u s.b.*;", "x.* + x.*; eat(x); #u x.*;", "drop n; #u n;", "drop r; #u r.*.*;",
	)
}

// P14.1: a place is used by what stands at it: only read, so that it stays; not where it isn't set, nor where it is lent alone.
func TestReadPlaces(t *testing.T) {
	const ahead = "let c = cell(1); let o = atomic(1); let q = rc(1); let w = arc(1); chan<int>(1) as i, j; chan<Box<int>>(1) as k, l; "
	for _, row := range []string{
		"c @get(c);", "c @set(c, 1);", "o @load(o);", "o @store(o, 1);", "o @fetch(o, 1);", "q @clone(q);", "w @clone(w);", "i @clone(i);", "j @clone(j);", "i @send(i, 1);", "j @recv(j);", "k @send(k, box(1));", "l @recv(l);", "n @n;", "n 1 + @n;", "x @x.*;",
	} {
		place, use, _ := strings.Cut(row, " ")
		fine, uninit, lent := strings.ReplaceAll(use, "@", ""), strings.ReplaceAll(use, "@", "#u "), strings.ReplaceAll(use, "@", "#l ")
		all(t,
			ahead+fine+fine, ahead+"drop "+place+"; "+uninit+uninit, ahead+"let z = &"+place+"; "+fine+fine+" #l drop "+place+";", ahead+"let z = &mut "+place+"; "+lent+lent,
			ahead+"{ let z = &mut "+place+"; } "+fine,
			ahead+"drop "+place+"; if true { "+uninit+" } else { } while false { "+uninit+" }",
		)
	}
	all(t,
		"let u = &mut s.b; s.a; #l s.b.*; s.c.e; eats(#l s);", "let u = &s.b; s.b.*; s.c.e;", "let c = cell(1); let u = &mut c; get(u.*); set(u.*, get(u.*)); #l get(c);", "let c = box(cell(1)); let u = &c; get(c.*); set(u.*.*, 2);",
		"let c = box(cell(1)); let u = &mut c; #l get(c.*);", "let c = box(cell(1)); let u = &mut c.*; #l set(c.*, 1);", "let c = box(atomic(1)); drop c; #u load(c.*); #u store(c.*, 1); #u fetch(c.*, 2);",
	)
}

// P14.1: Args come ahead of the expression itself, from the left.
func TestOrderOfArgs(t *testing.T) {
	const ahead = "fn gone(a: Cell<int>) -> int { 0 } fn lost(a: Atomic) -> int { 0 } fn sent(a: Sender<int>) -> int { 0 } "
	for _, s := range []string{
		"let c = cell(1); #u set(c, gone(c));", "let c = cell(1); set(c, get(c)); gone(c);", "let o = atomic(1); #u store(o, lost(o));", "let o = atomic(1); #u fetch(o, lost(o));", "chan<int>(1) as a, b; #u send(a, sent(a));", "chan<int>(1) as a, b; send(a, recv(b)); sent(a); #u send(a, recv(b));",
	} {
		told(t, ahead+in(s))
	}
	all(t,
		"x.* + eat(x); #u x;", "eat(x) + #u x.*;", "eat(x) + eat(#u x);", "(1 + eat(x)) * (2 - #u x.*);", "eat(x) < #u x.*; eat(y) == #u y.*;", "let b = eat(x) < 1 and #u x.* < 2 or #u x.* == 3;", "false and eat(x) < 1; #u x;", "not (eat(x) < 1); -eat(y); #u x; #u y;",
		"S { a = x.*, b = x, c = T { d = y, e = 1 } }; #u x; #u y;", "S { a = 1, b = x, c = T { d = #u x, e = #u x.* } };", "E.B(x); #u x;", "let b = box(x); #u x; unbox(b); #u b;", "let b = rc(x); #u x.*;", "let b = arc(x); #u x.*;", "let b = mutex(x); #u x.*; open(b); #u b;", "cell(eat(x)); atomic(eat(y)); #u x; #u y;",
		"mixed(m, eat(x)); #u m; #u x;", "mixed(m, #u m.*.*);", "gives(x, #u &x);", "gives(x, &y); #u x; y;", "eat(box(eat(box(eat(x))))) + #u x.*;",
		"let u = &x; eat(#l x) + #u x.*;", "chan<Box<int>>(1) as a, b; send(a, x); send(a, #u x); let z = recv(b); z; #u z;",
	)
}

// P14.1: what an argument lends is lent till the call has been computed, to the arguments behind it too.
func TestLentToCalls(t *testing.T) {
	all(t,
		"two(&x, &x);", "pair(&mut x, &mut y);", "pair(&mut x, #l &mut x);", "mixed(&mut x, #l x.*);", "mixed(&mut x, y.*);", "shared(&x, x.*);", "shared(&x, eat(#l x)); #u x;", "gives(x, #u &x);", "gives(y, &x); gives(#u y, &x); x;", "mixed(&mut x, poke(#l &mut x));", "mixed(&mut x, peek(#l &x));", "shared(&x, peek(&x));", "shared(&x, poke(#l &mut x));", "shared(&x, eat(y));",
		"poke(&mut x); poke(&mut x); peek(&x); x;", "peek(&x) + poke(&mut x) + eat(x);", "poke(&mut x) + x.*;", "x = box(poke(&mut x)); x.* = peek(&x); drop x;", "let z = poke(&mut x); x = y;", "if peek(&x) < poke(&mut x) { drop x; } else { drop x; }", "while poke(&mut x) < peek(&x) { poke(&mut x); }",
		"mixed(&mut x, mixed(&mut y, #l x.* + #l y.*)); x.* + y.*;", "mixed(&mut x, shared(&y, #l x.* + y.* + poke(#l &mut y))); x; y;", "shared(&x, shared(&x, 1) + poke(#l &mut x)) + poke(&mut x);", "mixed(&mut x, mixed(#l &mut x, #l x.*) + #l x.*) + x.*;",
		"drop x; peek(#u &x); poke(#u &mut x); two(#u &x, #u &x); pair(#u &mut x, #u &mut x);", "drop x; shared(#u &x, #u x.*);", "peek(&s.b) + poke(&mut s.c.d); two(&s.b, &s.c.d); pair(&mut s.b, &mut s.c.d); pair(&mut s.b, #l &mut s.b);", "shared(&s.b, eats(#l s));", "mixed(&mut s.b, s.a + s.c.e + #l s.b.*);",
		"peek(&r.*); peek(r); two(r, &r.*);", "poke(&mut m.*); poke(m); poke(#u m); poke(#u &mut m.*);", "pair(&mut m.*, #l m); #u m;", "mixed(&mut m.*, #l m.*.*); mixed(m, 1);", "two(&m.*, &m.*);",
		// A loan that was there stays, the same one too.
		"let u = &x; peek(&x); two(&x, &x); poke(#l &mut x); #l drop x;", "let u = &mut x; peek(#l &x); poke(#l &mut x); #l x.*; peek(&u.*); poke(&mut u.*); poke(u); #l x.*;", "{ let u = &x; { peek(&x); poke(#l &mut x); } } poke(&mut x);",
	)
	told(t, items+"fn g(x: Box<int>) -> int { mixed(&mut x, #l x.*) }")
	told(t, items+"fn g(x: Box<int>) -> int { let r = &x; shared(&x, poke(#l &mut x)) + peek(r) }")
}

// P14.1: the last expression of a function comes behind its statements, whose loans still hold; its variables are still there.
func TestLastExpression(t *testing.T) {
	for _, s := range []string{
		"let r = &x; r.*.*", "let r = &mut x; #l x.*", "let r = &x; eat(#l x)", "eat(x) + #u x.*", "let y = x; #u x.*", "{ let r = &mut x; } x.*", "let r = &x; poke(#l &mut x)", "drop x; peek(#u &x)", "if true { drop x; } #u x.*", "while false { #u drop x; } #u x.*", "let y = box(1); eat(y) + eat(x)", "scope { spawn (r = &mut x) { } } x.*",
	} {
		told(t, items+"fn g(x: Box<int>) -> int { "+s+" }")
	}
	told(t, items+"fn g(x: Box<int>) -> Box<int> { let r = &x; #l x } fn h(x: Box<int>) -> Box<int> { x } fn i(x: &Box<int>) -> S { S { a = peek(x), b = box(peek(x)), c = T { d = box(1), e = peek(&x.*) } } }")
}
