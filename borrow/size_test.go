package borrow

import (
	"slices"
	"strconv"
	"strings"
	"testing"

	"weftway/api"
)

// nested is a text of loops within one another, each of which makes a variable set, and the one around it takes that away.
func nested(levels int, innermost string) string {
	var lets, text strings.Builder
	for i := range levels {
		lets.WriteString("let v" + strconv.Itoa(i) + " = box(1); ")
		text.WriteString("while true { v" + strconv.Itoa(i) + " = box(2); ")
	}
	text.WriteString(innermost)
	for i := range levels {
		if k := levels - 1 - i; k > 0 {
			text.WriteString("} drop v" + strconv.Itoa(k-1) + "; ")
		} else {
			text.WriteString("} ")
		}
	}
	return "fn main() -> int { " + lets.String() + text.String() + "0 }"
}

// P14.1: rounds of loops within one another do not multiply; each of them is gone till nothing new comes.
func TestDeepLoops(t *testing.T) {
	for levels := 1; levels <= 35; levels++ {
		told(t, nested(levels, ""))
	}
	told(t, nested(35, "let w = box(1); drop w; #u drop w; "))
	told(t, strings.ReplaceAll(nested(35, "#u drop v0; "), "} drop v0; }", "} #u drop v0; }"))
	told(t, nested(35, "v34.*; v17.*; "))
	told(t, nested(30, "scope { spawn (p = &v3) { } } "))
	const levels = 30
	text := "fn main() -> int { let x = box(1); let y = box(2); " + strings.Repeat("while #u x.* < 1 { ", levels) + "#u drop x; " + strings.Repeat("#u y.*; } ", levels) + "#u x.* }"
	told(t, strings.Replace(text, "#u y.*; ", "y.*; ", -1))
	told(t, "fn main() -> int { let x = box(1); scope { "+strings.Repeat("while #l x.* < 1 { ", levels)+"spawn (p = #l &mut x) { } "+strings.Repeat("} ", levels)+"} x.* }")
	told(t, "fn main() -> int { let x = box(1); "+strings.Repeat("while true { x = box(2); while true { drop x; x = box(3); } ", 16)+strings.Repeat("} ", 16)+"x.* }")
}

// P14.1: loops of which each has more to ask of the one within it.
func TestLoopsOfLoops(t *testing.T) {
	var lets, text strings.Builder
	for i := range 50 {
		lets.WriteString("let v" + strconv.Itoa(i) + " = box(1); ")
	}
	for i := range 16 {
		n, k := strconv.Itoa(i), strconv.Itoa(i+17)
		text.WriteString("while true { if 1 < 2 { #u drop v" + n + "; } else { v" + k + " = box(1); } while v" + k + ".* < 1 { v" + k + ".*; } ")
	}
	text.WriteString(strings.Repeat("} ", 16))
	told(t, "fn main() -> int { "+lets.String()+text.String()+"0 }")
}

// P14.1: a body of very many statements, and one of which everything is wrong.
func TestManyStatements(t *testing.T) {
	p := read(t, "fn peek(a: &Box<int>, b: &Box<int>) -> int { 0 } fn main() -> int { let x = box(1); let y = box(2); x = box(peek(&x, &y)); y.* = 3; scope { spawn (p = &x) { } spawn (p = &x) { } x.*; } if true { x.*; } else { y.*; } 0 }")
	main := &p.Items[1]
	main.Body = slices.Concat(main.Body[:2], slices.Repeat(main.Body[2:], 4000))
	if got := Check(p); got != nil {
		t.Error(len(got))
	}
	q := read(t, "fn main() -> int { let x = box(1); drop x; 0 }")
	drop := q.Items[0].Body[1]
	for i := range 30000 {
		drop.At = i
		q.Items[0].Body = append(q.Items[0].Body, drop)
	}
	got := Check(q)
	if len(got) != 30000 {
		t.Fatal(len(got))
	}
	for i, f := range got {
		if f != (api.Fault{Err: api.ErrUninit, At: i}) {
			t.Fatal(i, f)
		}
	}
}

// P14.1: a spawn in a spawn, as deep as a program may be, and very many of them.
func TestManySpawns(t *testing.T) {
	told(t, "fn main() -> int { let x = box(1); "+strings.Repeat("scope { spawn (x = x) { x.*; ", 18)+strings.Repeat("} } ", 18)+"#u x.* }")
	p := read(t, "fn main() -> int { let x = box(1); scope { spawn (p = &x) { p.*.*; let q = box(1); drop q; drop q; } } x.* }")
	scope := &p.Items[0].Body[1]
	scope.Body = slices.Repeat(scope.Body, 3000)
	if got := Check(p); len(got) != 3000 || got[0] != got[2999] || got[0].Err != api.ErrUninit {
		t.Error(len(got))
	}
	// Each lends another place, alone.
	deep := "fn f(x: " + strings.Repeat("Box<", 30) + "int" + strings.Repeat(">", 30) + ") -> int { scope { spawn (p = &x) { } } 0 } fn main() -> int { 0 }"
	p = read(t, deep)
	scope = &p.Items[0].Body[0]
	spawn := scope.Body[0]
	scope.Body = nil
	for n := range 31 {
		for range 40 {
			s := spawn
			s.Exprs = []api.Expr{{Op: api.EShare, Place: api.Place{Name: "x", Path: slices.Repeat([]string{"*"}, n)}}}
			scope.Body = append(scope.Body, s)
		}
	}
	if got := Check(p); got != nil {
		t.Error(got)
	}
}
