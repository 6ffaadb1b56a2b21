package cross

import (
	"strconv"
	"strings"
	"testing"
)

// P15.1: a variable has its type from where it was made; behind its block another one may stand where it stood.
func TestVariables(t *testing.T) {
	all(t,
		// let
		"let x = o; scope { spawn (y = #Rc<int>!# x) { } }", "let x = &o; scope { spawn (y = #&Rc<int>!# x) { } }", "let x = &mut c; let z = &mut x; scope { spawn (y = #&mut &mut Cell<int># z, k = #&mut Cell<int># x) { } }", "let x = n + 1; let z = box(x); scope { spawn (y = #Box<int># z, k = #&int# &z.*) { } }", "let x = mutex(w); let z = arc(x); scope { spawn (y = #Arc<Mutex<W>>!# z, k = #&Mutex<W>!# &z.*) { } }", "scope { let x = rc(c); spawn (y = #Rc<Cell<int>>!# x) { } let z = arc(n); spawn (y = #Arc<int># z) { } }",
		// let S { .. }
		"let W { x, z } = w; scope { spawn (y = #Rc<int>!# x, k = #Q# z, h = #&Q!# &z) { } }", "let W { x, z } = make(1); let Q { u, v } = z; let P { h, i } = v; scope { spawn (y = #Rc<int>!# x, k = #Cell<int># u, a = #int# h, b = #Box<int># i) { } }", "let O { } = O { }; scope { spawn (y = #int# n) { } }",
		// match
		"let e = E.C; match e: E { C => { scope { spawn (y = #E!# e) { } } } B(b) => { scope { spawn (y = #int# b) { } } } A(a) => { scope { spawn (y = #Rc<int>!# a, z = #&Rc<int>!# &a) { } } } }", "let e = F.A; match e: F { A => { } C(z) => { let k = z; scope { spawn (y = #P# k) { } } } B(b) => { let k1 = b; scope { spawn (y = #Q# k1, z = #&Q!# &b, u = #&Cell<int>!# &b.c) { } } } } scope { spawn (y = #F# e) { } }", "scope { let e = E.C; match e: E { A(a) => { spawn (y = #Rc<int>!# a) { } } B(b) => { spawn (y = #int# b) { } } C => { spawn (y = #int# n) { } } } spawn (z = #&E!# &e) { } }",
		// lock
		"let x = mutex(o); lock x as g { scope { spawn (y = #&mut Rc<int>!# g, z = #&Rc<int>!# &g.*) { } } } lock x as h { scope { spawn (y = #&mut Rc<int>!# h) { } } }", "let x = arc(mutex(c)); lock x.* as g { scope { spawn (y = #&mut Cell<int># g, z = #&Cell<int>!# &g.*, k = #&mut Cell<int># &mut g.*, h = #Arc<Mutex<Cell<int>>># clone(x)) { } } } scope { spawn (y = #&Mutex<Cell<int>># &x.*) { } }", "let x = mutex(make(1)); lock x as g { let z = &g.*.f.d; scope { spawn (y = #&P# z, k = #&mut W!# g) { } } }",
		// chan
		"chan<Rc<int>>(1) as i, j; scope { spawn (y = #Sender<Rc<int>>!# i, z = #&Receiver<Rc<int>>!# &j) { } }", "chan<Q>(8) as i, j; scope { spawn (y = #Sender<Q># i, z = #Receiver<Q># j, k = #Q# recv(j)) { } } chan<W>(1) as k, l; scope { spawn (y = #&mut Sender<W>!# &mut k, z = #W!# recv(l)) { } }",
	)
}

// P15.1: what a block made is forgotten behind it, and nothing that was there ahead of it.
func TestBlocks(t *testing.T) {
	const spawn = "scope { spawn (y = #Rc<int>!# o, z = #int# n) { } }"
	for _, block := range []string{
		"{ let x = n; BODY }", "if true { let x = n; BODY } else { let z = n; BODY }", "if true { } else { let z = n; let k = z; BODY }", "while true { let x = n; BODY }", "scope { let x = n; BODY let z = x; }", "scope { scope { { let x = n; BODY } } }", "let e = E.C; match e: E { A(a) => { let x = a; BODY } C => { let z = n; BODY } B(b) => { BODY } }", "let i = mutex(n); lock i as g { let x = g.*; BODY }", "{ chan<int>(1) as i, j; let W { k, l } = w; BODY }",
	} {
		all(t, strings.ReplaceAll(block, "BODY", spawn)+" let q = c; scope { spawn (y = #Rc<int>!# o, z = #int# n, u = #Cell<int># q) { } }")
	}
	all(t,
		"{ let x = n; } let z = o; scope { spawn (y = #Rc<int>!# z) { } } { let k = c; } scope { spawn (y = #Rc<int>!# z) { } }", "if true { let x = n; } else { let z = o; scope { spawn (y = #Rc<int>!# z) { } } } let k = c; scope { spawn (y = #Cell<int># k) { } }",
		"let x = mutex(n); lock x as g { let z = o; scope { spawn (y = #Rc<int>!# z, k = #&mut int# g) { } } let k = c; scope { spawn (y = #Cell<int># k) { } } } let h = o; scope { spawn (y = #Rc<int>!# h) { } }",
		"let e = F.A; match e: F { B(b) => { let x = o; scope { spawn (y = #Rc<int>!# x) { } } } C(k) => { let z = n; scope { spawn (y = #int# z, u = #P# k) { } } } A => { let h = c; scope { spawn (y = #Cell<int># h) { } } } }",
	)
}

// P15.1: a spawn's body has its list's names alone for variables, whatever these are outside of it.
func TestBodies(t *testing.T) {
	all(t,
		"scope { spawn (y = #int# n) { scope { spawn (z = #1:int# y, k = #1:&int# &y) { } } } }", "scope { spawn (o = #int# n, n = #Rc<int>!# o) { scope { spawn (o = #1:int# o, n = #1:Rc<int>!# n) { scope { spawn (x = #2:int# o, z = #2:&Rc<int>!# &n) { } } } } } }",
		"scope { spawn (c = #&Cell<int>!# &c) { let o = c; let x = &o; scope { spawn (y = #1:&Cell<int>!# o, z = #1:& &Cell<int>!# x) { } } } spawn (x = #Rc<int>!# o) { let o = 1; let c = true; scope { spawn (y = #2:int# o, z = #2:bool# c) { } } } spawn (y = #Cell<int># c) { } }",
		"let x = 1; scope { spawn (c = #Mutex<Rc<int>>!# mutex(o)) { lock c as x { scope { spawn (y = #1:&mut Rc<int>!# x) { } } } } } scope { spawn (y = #int# x) { } }",
		"scope { spawn (e = #E!# E.A(o), f = #F# F.A) { match e: E { A(x) => { scope { spawn (y = #1:Rc<int>!# x) { } } } B(z) => { scope { spawn (y = #1:int# z) { } } } C => { } } match f: F { A => { } B(k) => { scope { spawn (y = #1:&Q!# &k) { } } } C(l) => { scope { spawn (y = #1:&P# &l) { } } } } } } scope { spawn (y = #Cell<int># c) { } }",
		"scope { spawn () { chan<Rc<int>>(1) as c, o; scope { spawn (y = #1:Sender<Rc<int>>!# c, z = #1:Receiver<Rc<int>>!# o) { scope { spawn (k = #2:Rc<int>!# recv(z)) { } } } } } } scope { spawn (y = #Cell<int># c, z = #Rc<int>!# o) { } }",
		"scope { spawn (x = #W!# w) { let W { c, o } = x; scope { spawn (y = #1:Rc<int>!# c, z = #1:Q# o) { } } } } scope { spawn (y = #Cell<int># c, z = #Rc<int>!# o) { } }",
	)
}

// P15.1: the spawns of a body in the order of its statements, then the bodies of these: the first one's spawns, then all within them, then those of the next one.
func TestOrder(t *testing.T) {
	all(t,
		"scope { spawn (y = #int# 1) { scope { spawn (z = #1:bool# true) { scope { spawn (k = #2:unit# ()) { } } } } } spawn (y = #int# 2) { scope { spawn (z = #3:bool# false) { } } } } scope { spawn (y = #int# 3) { } }",
		"scope { spawn (y = #Rc<int>!# o) { scope { spawn (z = #1:Rc<int>!# y) { scope { spawn (k = #2:Rc<int>!# z) { } } scope { spawn (k = #2:int# 1) { } } } spawn (z = #1:&Rc<int>!# &y) { scope { spawn (k = #3:&Rc<int>!# z) { } } } } } spawn (y = #&Rc<int>!# &o) { scope { spawn (z = #4:&Rc<int>!# y) { } } } }",
		"if true { scope { spawn (y = #int# 1) { scope { spawn (z = #1:int# 2) { } } } } } else { scope { spawn (y = #int# 3) { scope { spawn (z = #2:int# 4) { } } } } } while true { scope { spawn (y = #int# 5) { scope { spawn (z = #3:int# 6) { } } } } } { scope { spawn (y = #int# 7) { scope { spawn (z = #4:int# 8) { } } } } } scope { spawn (y = #int# 9) { } }",
		"let e = E.C; match e: E { C => { scope { spawn (y = #int# 1) { scope { spawn (z = #1:int# 1) { } } } } } A(a) => { scope { spawn (y = #int# 2) { scope { spawn (z = #2:int# 2) { } } } } } B(b) => { scope { spawn (y = #int# 3) { scope { spawn (z = #3:int# 3) { } } } } } } let x = mutex(1); lock x as g { scope { spawn (y = #int# 4) { scope { spawn (z = #4:int# 4) { } } } } } scope { spawn (y = #int# 5) { } scope { spawn (y = #int# 6) { } } spawn (y = #int# 7) { } }",
		"scope { spawn () { scope { spawn () { scope { spawn (y = #1:int# 1) { } } } spawn (y = #int# 2) { } } scope { spawn (y = #int# 3) { } } } spawn () { } spawn () { scope { spawn (y = #2:int# 4) { } } } }",
	)
	// Function by function, the items in their order.
	told(t, "fn g(x: Rc<int>) -> int { scope { spawn (y = #Rc<int>!# x) { scope { spawn (z = #1:&Rc<int>!# &y) { } } } } 0 } struct S { a: Cell<int> } fn main() -> int { let x = S { a = cell(1) }; scope { spawn (y = #2:&S!# &x) { scope { spawn (z = #3:&S!# y) { } } } spawn (y = #2:S# x) { } } 0 } enum E { A } fn f() -> int { 1 } fn h(x: E) -> int { scope { spawn (y = #4:E# x) { } } 0 }")
}

// P15.1: a spawn in a spawn, as deep as a program may be; each of many spawns in each of many.
func TestManySpawns(t *testing.T) {
	const deep = 18
	var text strings.Builder
	for i := range deep {
		if i < 10 {
			text.WriteString("scope { spawn (x = #" + strconv.Itoa(i) + ":Rc<int>!# x) { ")
		} else {
			text.WriteString("scope { spawn (x = #9:Rc<int>!# x) { ")
		}
	}
	told(t, "fn main() -> int { let x = rc(1); "+text.String()+strings.Repeat("} } ", deep)+"0 }")
	p := read(t, "fn main() -> int { let x = rc(1); scope { spawn (y = x) { scope { spawn (z = 1, k = &y) { } } } } 0 }")
	scope := &p.Items[0].Body[1]
	const many = 30000
	for i := range many {
		s := scope.Body[0]
		s.Exprs = append(s.Exprs[:0:0], s.Exprs...)
		s.Exprs[0].At = i
		scope.Body = append(scope.Body, s)
	}
	scope.Body = scope.Body[1:]
	got := All(p)
	if len(got) != 3*many || len(Check(p)) != 2*many {
		t.Fatal(len(got))
	}
	for i := range many {
		if got[i].At != i || got[many+2*i].At == got[many+2*i+1].At || got[many+2*i].At != got[many].At {
			t.Fatal(i)
		}
	}
}

// P15.2: of a type that isn't whole it is told, as it is not Send.
func TestTooDeep(t *testing.T) {
	row := strings.Repeat("Box<", 36) + "int" + strings.Repeat(">", 36)
	p := read(t, "fn f(x: "+row+") -> int { let a = box(x); let b = box(a); let c = box(b); scope { spawn (i = a, j = b, k = c) { } spawn (h = &b, i = &c, j = box(c)) { } } 0 } fn main() -> int { 0 }")
	whole := []bool{true, true, true, true, false, false}
	var faults []int
	for i, c := range All(p) {
		depth := 1
		for x := c.Type; len(x.Args) > 0; x = x.Args[0] {
			depth++
		}
		if whole[i] != (depth <= 40) {
			t.Error(i, depth)
		}
		if !whole[i] {
			faults = append(faults, c.At)
		}
	}
	got := Check(p)
	if len(got) != 2 || len(faults) != 2 || got[0].At != faults[0] || got[1].At != faults[1] {
		t.Error(got, faults)
	}
}
