package borrow

import "testing"

// P14.1: a let lends a place till the end of the block in which it stands.
func TestLets(t *testing.T) {
	all(t,
		"let u = &x; let v = &x; x.*; #l drop x;", "let u = &mut x; let v = #l &mut x;", "let u = &x; let v = #l &mut x; let w = #l &x;", "let u = &mut x; #l x.* = 1;", "let u = &x; #l x.* = 1; #l x = box(1);", "let u = &x; let v = u; let w = u; #l drop x;",
		"{ let u = &mut x; } { let u1 = &mut x; } x;", "{ { let u = &mut x; #l x.*; } let v = &mut x; #l x.*; } let w = &mut x; #l x.*;", "{ let u = &x; { #l drop x; } #u drop x; } #u drop x;",
		"let u = &mut x; let v = &mut u.*; #l u.*.*; #l u; v.*.*;", "let u = &mut x; { let v = &mut u.*; v.*.* = 1; } u.*.* = 2; #l x.*;", "let u = &mut x; let v = u; #u u.*.*; v.*.* = 2; #l x.*;", "let u = &mut x; drop u; #l x.*;", "{ let u = &mut x; drop u; #l x.*; } x.*;",
		"let u = &s.b; s.c.e = 1; s.a = 2; let v = &mut s.c; #l s.b = box(1); #l s.c.e; s.b.*; #l drop s;", "let u = &s.c.d.*; #l s.c.d.* = 1; #l s.c.d = box(1); s.c.e = 1; s.c.e; let v = #l &mut s.c; let w = #l &s.c.e;", "let u = &s; #l s.a = 1; s.a; let v = #l &mut s.b.*; let w = #l &s.b.*; let z = &s.a;",
		"let u = &m.*; m.*.*; #l m.*.* = 1; #l m;", "let u = &mut m.*.*; #l m.*.*; let v = #l &m;", "let u = &r.*; let v = r; #l drop r;",
		"let u = eat(x); #u x;", "let u = x; let v = u; #u u; #u x;", "drop x; let u = #u &x; #l x = box(1); x.*;", "drop x; let u = #u &mut x; #l x = box(1); #l x.*;",
		"let u = box(1); u; u = box(2); u; #u u;", "if true { let u = box(1); u; } else { let v = box(1); v; #u v; }",
	)
}

// P14.1: what a struct is taken apart into is set, and typed as its fields are.
func TestTakes(t *testing.T) {
	all(t,
		"let S { i, j, k } = s; i + i; j; #u j; let T { l, o } = k; #u k.e; l; #u l; o + o; #u s.a;", "let S { i, j, k } = S { a = x.*, b = x, c = T { d = #u x, e = 1 } }; j;", "let O { } = O { };", "let S { i, j, k } = s; let S { i1, j1, k1 } = #u s; j1; k1;",
		"let S { i, j, k } = s; let u = &mut j; #l j.*; k.d.*; i + 1;", "let u = &s.c.d; let S { i, j, k } = #l s; i; #u s;", "{ let S { i, j, k } = s; let u = &j; #l j; } #u s;",
	)
}

// P14.1: an assignment of a variable alone makes it set, whether it was or not; a place with steps needs it to be. The expression comes ahead.
func TestAssignments(t *testing.T) {
	all(t,
		"x = box(1); x;", "drop x; x = box(1); x; #u x;", "x = x;", "drop x; x = #u x; x;", "x = box(eat(x)); x.*;", "n = n + 1;", "drop n; n = 1; n;", "drop n; n = #u n; n;",
		"#u x.* = eat(x); x = y; x.* = 1;", "drop x; #u x.* = 1; #u x.* = 2;", "#u s.a = eats(s); #u s.b = x; #u s.c.e = 1; s = S { a = 1, b = y, c = T { d = box(1), e = 2 } }; s.c.e = s.a;", "s.b = x; s.b = y; #u x; s.c.d = box(1); s.b.*;", "drop m; #u m.*.* = 1;",
		"let u = &x; #l x = box(1); #l x.* = 1; u.*.*;", "let u = &mut x; #l x = y; #u y; #l x.*;", "let u = &s.b; s.a = 1; s.c = T { d = x, e = 1 }; #l s.b.* = 1; #l s.b = y;", "let u = &m.*; #l m.*.* = 1; #l m.* = x;",
		"drop x; let u = #u &x; #l x = box(1); #l x; #u x;", "let u = &mut m.*; u.*.* = 1; u.* = x; #l m.* = y;", "x = box(poke(&mut x)); x = box(peek(&x)); s.b = box(poke(&mut s.b));", "{ let u = &x; #l x = y; } x = box(1); x;",
		"if true { x = y; } else { } x; #u y;", "while false { x = box(1); } x; #u x;",
	)
}

// P14.1: an expression alone, a drop; a drop is of the whole variable, whatever it has.
func TestDrops(t *testing.T) {
	all(t,
		"x; #u x; eat(y); #u y;", "drop x; #u drop x; #u x;", "drop n; #u drop n;", "drop r; #u drop r;", "drop m; #u m;", "let u = &x; #l drop x; #u drop x;", "let u = &mut s.c.d; #l drop s; #u s.a;", "let u = &x; drop u; #l drop x;", "let u = &x; drop y; #u y; #l drop x;",
		"{ let u = &n; #l drop n; } #u n; n = 1; drop n;", "{ drop x; } #u drop x;", "{ let u = x; drop u; #u u; } #u x;", "let u = &m.*; #l drop m;", "let c = cell(1); drop c; #u get(c);",
	)
}

// P14.1: a channel's ends are set, and moved.
func TestChannels(t *testing.T) {
	all(t,
		"chan<int>(1) as i, j; send(i, 1); recv(j); let k = i; #u send(i, 1); drop j; #u recv(j);", "chan<Box<int>>(2) as i, j; send(i, x); #u x; x = recv(j); send(i, x); i; #u i; j; #u j;", "{ chan<int>(1) as i, j; let u = &i; #l i; send(u.*, 1); j; } chan<int>(1) as k, l; k; l;", "while true { chan<int>(1) as i, j; i; j; #u i; }",
	)
}

// P14.1: a lock lends its place, shared, till the end of its block; what it makes is a &mut.
func TestLocks(t *testing.T) {
	const ahead = "let c = mutex(1); let d = box(mutex(2)); let w = arc(mutex(3)); let k = mutex(x); "
	for _, s := range []string{
		"lock c as g { g.* = 1; } c;", "lock c as g { #l c; } #u c;", "lock c as g { #l drop c; }", "lock c as g { #l c = mutex(2); } c = mutex(3);", "lock c as g { let u = &c; lock c as h { } let v = #l &mut c; } let z = &mut c; #l lock c as i { }", "lock c as g { lock c as h { #l c; } #u c; }",
		"drop c; #u lock c as g { g.* = 1; }", "let u = &c; lock c as g { } lock u.* as h { } #l c;", "let u = &mut c; #l lock c as g { } lock u.* as h { }", "let u = &mut c; lock u.* as h { #l u; } #u u;", "lock d.* as g { #l d; } #u lock d.* as h { }", "lock d.* as g { let u = &d; } d;",
		"lock w.* as g { #l w; } #u w;", "lock w.* as g { let v = clone(w); drop v; }", "lock k as g { g.*.* = 1; let u = &g.*; #l g; } k;", "lock k as g { g; #u g.*.*; }", "lock k as g { let h = g; #u g.*.*; h.*.* = 1; } lock k as i { i.*.*; }", "lock k as g { let u = &mut g.*; #l g.*.*; poke(#l g); poke(u); }",
		"lock c as g { drop y; } #u y;", "lock c as g { let u = &y; #l y; } #u y;", "lock c as g { let u = &y; } y;", "lock c as g { drop g; #u drop g; }", "while true { lock c as g { g; } }", "{ lock c as g { } c; } #u c;", "if true { lock c as g { } } else { lock c as h { #l c; } } #u c;",
		"lock c as g { lock d.* as h { g.* = h.*; #l drop c; #l drop d; } #u c; } #u d;", "lock c as g { lock d.* as h { g.* = h.*; } drop d; #l drop c; }",
	} {
		told(t, in(ahead+s))
	}
}

// P14.1: behind a block its variables' loans have ended, and no others.
func TestBlocks(t *testing.T) {
	all(t,
		"{ } x;", "{ { { x; } } } #u x;", "{ let u = &x; { let v = &y; { let w = &s; #l s; } #u s; #l y; } #u y; #l x; } #u x;", "let u = &x; { let v = &x; } #l x;", "let u = &x; { let v = &mut y; } y; #l x;", "{ let u = box(1); let v = &u; #l u; } { let u1 = box(1); u1; }", "{ x = y; } x; #u y;",
	)
}
