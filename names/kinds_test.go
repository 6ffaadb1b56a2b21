package names

import (
	"slices"
	"strconv"
	"strings"
	"testing"

	"weftway/api"
)

// P6.1: calls, and how many arguments they have.
func TestCalls(t *testing.T) {
	for _, s := range []string{
		"two(1, 2);", "none();", "#1 two(1);", "#1 two();", "#1 two(1, 2, 3);", "#1 none(1);", "#1 main(1);", "main();",
		"#1 gone();", "#1 gone(#2 gone(1));", "two(#1 two(none()), #2 a);", "let none = 1; none();", "let a = 1; #1 a();",
	} {
		told(t, in(s))
	}
	told(t, "fn f(a: int) -> int { f(g()) } fn g() -> int { f(0) } fn main() -> int { 0 }")
	// The first of a name counts.
	told(t, "fn f(a: int) -> int { f(1) } #1 fn f() -> int { #2 f() } fn main() -> int { f(1) }")
}

// P6.1: structs, their fields' names as they are written; taken apart, how many there are.
func TestStructs(t *testing.T) {
	for _, s := range []string{
		"S { a = 1, b = 2 };", "O { };", "#1 O { a = 1 };", "#1 S { };", "#1 S { a = 1 };", "#1 S { b = 1, a = 2 };",
		"#1 S { a = 1, c = 2 };", "#1 S { a = 1, b = 2, c = 3 };", "#1 S { a = 1, a = 2 };", "#1 T { };", "#1 E { };",
		"#1 T { a = #2 b };", "#1 S { b = #2 b, a = S { a = 1, b = 2 } };", "S { a = 1, b = #1 S { a = 1 } };",
		"let S { a, b } = 1; a; b;", "let S { x, y } = 1; x; y;", "let O { } = 1;", "#1 let S { x } = 1; x;",
		"#1 let S { x, y, z } = 1; x; y; z;", "#1 let S { } = 1;", "#1 let O { x } = 1; x;", "#1 let T { } = 1;",
		"#1 let E { x, y } = 1; x; y;", "#2 let T { x } = #1 y; x;",
	} {
		told(t, in(s))
	}
	told(t, "struct S { a: int } #1 struct S { b: int } fn main() -> int { S { a = 1 }; #2 S { b = 1 }; let S { x } = 1; x }")
	told(t, "struct S { } #1 struct S { b: int } fn main() -> int { let S { } = 1; #2 let S { x } = 1; x }")
	told(t, "#1 struct S { a: int, a: int } fn main() -> int { S { a = 1, a = 2 }; #2 S { a = 1 } }")
	// What has the name ahead of it is an enum: that counts.
	told(t, "enum S { } #1 struct S { a: int } fn main() -> int { #2 S { a = 1 }; #3 let S { x } = 1; x }")
}

// P6.1: enums, their variants, and which of these have a payload.
func TestEnums(t *testing.T) {
	for _, s := range []string{
		"E.A;", "E.B(1);", "#1 E.A(1);", "#1 E.B;", "#1 E.C;", "#1 E.C(1);", "#1 F.A;", "#1 S.A;", "#1 N.A;", "#1 E.E;",
		"E.B(#1 E.B);", "#1 E.A(#2 a);",
	} {
		told(t, in(s))
	}
	told(t, "enum E { A } #1 enum E { B } fn main() -> int { E.A; #2 E.B; 0 }")
	told(t, "#1 enum E { A, A(int) } fn main() -> int { E.A; #2 E.A(1); 0 }")
	told(t, "struct E { } #1 enum E { A } fn main() -> int { #2 E.A; 0 }")
}

// P6.1: a match has just one arm for each variant, and a name just where there is a payload.
func TestMatches(t *testing.T) {
	for _, s := range []string{
		"match e: E { A => { } B(b) => { b; } }", "match e: E { B(b) => { } A => { } }", "match e: N { }",
		"#1 match e: E { }", "#1 match e: E { A => { } }", "#1 match e: E { B(b) => { b; } }",
		"#1 match e: E { A => { } A => { } }", "#1 match e: E { A => { } B(b) => { } A => { } }",
		"#1 match e: E { A => { } B(b) => { } C => { } }", "#1 match e: E { C => { } B(b) => { } }",
		"#1 match e: E { A => { } B => { #2 b; } }", "#1 match e: E { A(a) => { a; } B(b) => { } }",
		"#1 match e: E { A(a) => { } B => { } }", "#1 match e: N { A => { } }", "#1 match e: F { }",
		"#1 match e: S { }", "#1 match e: S { A => { #2 x; } B(b) => { b; } }",
		// At most once of itself, whatever is wrong; what is in its arms is looked at all the same.
		"#1 match x: E { A => { } }", "#1 match x: F { A(a) => { a; #2 y; } A(b) => { b; #3 a; } }",
	} {
		told(t, in("let e = 1; "+s))
	}
	told(t, "enum E { A } #1 enum E { B } fn f(e: E) -> int { match e: E { A => { } } #2 match e: E { B => { } } 0 } fn main() -> int { 0 }")
}

// P6.1: each spawn in a scope of its own function, however deep within.
func TestSpawns(t *testing.T) {
	for _, s := range []string{
		"#1s spawn () { }", "scope { spawn () { } spawn () { } }", "scope { } #1s spawn () { }", "{ #1s spawn () { } }",
		"scope { { if true { } else { while true { spawn () { } } } } }", "scope { scope { } spawn () { } } #1s spawn () { }",
		"scope { let e = 1; match e: E { A => { spawn () { } } B(b) => { lock b as g { spawn () { } } } } }",
		"let e = 1; match e: E { A => { #1s spawn () { } } B(b) => { lock b as g { #2s spawn () { } } } }",
		"scope { spawn () { #1s spawn () { #2s spawn () { } } } }", "scope { spawn () { scope { spawn () { } } #1s spawn () { } } spawn () { } }",
		"scope { spawn () { scope { spawn () { #1s spawn () { } } } } }",
		// First its expressions, then itself, then its names, then its body.
		"#2s spawn (a = #1 x) { a; #3 b; }", "let x = 1; #1s spawn (a = x) { #2s spawn () { } #3 x; }",
	} {
		told(t, in(s))
	}
	told(t, in("#1s#2 spawn (a = 1, a = 2) { #3 drop b; }"))
	told(t, "fn f() -> int { scope { g(); } 0 } fn g() -> int { #1s spawn () { } 0 } fn main() -> int { 0 }")
}

// P6.1: a channel's type, told ahead of its names.
func TestChannels(t *testing.T) {
	for _, s := range []string{
		"chan<int>(1) as s, r;", "chan<S>(1) as s, r;", "chan<Box<E>>(1) as s, r;", "#1 chan<T>(1) as s, r; s; r;",
		"#1 chan<&Box<T>>(1) as s, r;", "#1 chan<int>(1) as s, s; s;", "chan<int>(1) as s, r; #1 chan<int>(1) as t, r; t;",
		"#1#2 chan<T>(1) as s, s;", "let s = 1; #1#2#3 chan<T>(1) as s, s;",
	} {
		told(t, in(s))
	}
}

// lets are n of them, of names that begin with that letter.
func lets(letter string, n int) string {
	var out strings.Builder
	for i := range n {
		out.WriteString("let " + letter + string(rune('a'+i/26)) + string(rune('a'+i%26)) + " = 1; ")
	}
	return out.String()
}

// P6.1: 60 variables of a function, and one more, whatever makes them.
func TestMany(t *testing.T) {
	for _, s := range []string{
		"fn main() -> int { " + lets("v", 60) + "0 }",
		"#1f fn main() -> int { " + lets("v", 61) + "0 }",
		"fn f(a: int, b: int) -> int { " + lets("v", 58) + "0 } fn main() -> int { 0 }",
		"#2f fn f(a: int, b: int) -> int { " + lets("v", 59) + "#1 x } fn main() -> int { #3 x }",
		"fn main() -> int { { " + lets("v", 30) + "} { " + lets("w", 30) + "} 0 }",
		"#1f fn main() -> int { { " + lets("v", 30) + "} { " + lets("w", 31) + "} 0 }",
		"fn main() -> int { " + lets("v", 58) + "chan<int>(1) as s, r; 0 }",
		"#1f fn main() -> int { " + lets("v", 59) + "chan<int>(1) as s, r; 0 }",
		"struct S { a: int, b: int } fn main() -> int { " + lets("v", 58) + "let S { a, b } = 1; 0 }",
		"struct S { a: int, b: int } #1f fn main() -> int { " + lets("v", 59) + "let S { a, b } = 1; 0 }",
		"fn main() -> int { " + lets("v", 59) + "lock vaa as g { } 0 }",
		"#1f fn main() -> int { " + lets("v", 60) + "lock vaa as g { } 0 }",
		"enum E { A(int), B(int), C } fn main() -> int { " + lets("v", 58) + "match vaa: E { A(a) => { } B(b) => { } C => { } } 0 }",
		"enum E { A(int), B(int), C } #1f fn main() -> int { " + lets("v", 59) + "match vaa: E { A(a) => { } B(b) => { } C => { } } 0 }",
		// A spawn's names count for its own body alone.
		"fn main() -> int { " + lets("v", 58) + "scope { spawn (a = 1, b = 1) { " + lets("v", 58) + "} } let a = 1; let b = 1; 0 }",
		"#4f fn main() -> int { " + lets("v", 59) + "scope { #2f spawn (a = 1, b = 1) { " + lets("v", 59) + "#1 x; } #3 x; } let a = 1; let b = 1; 0 }",
		"fn main() -> int { scope { #1f spawn () { scope { spawn () { " + lets("v", 60) + "} } " + lets("v", 61) + "} } 0 }",
		// Those whose name was taken count, too.
		"fn main() -> int { " + lets("v", 59) + "#1 let vaa = 1; 0 }",
		"#2f fn main() -> int { " + lets("v", 60) + "#1 let vaa = 1; 0 }",
	} {
		told(t, s)
	}
	// Told of each function, ahead of what is wrong with the next item, and of main.
	told(t, "#1f fn f() -> int { "+lets("v", 61)+"0 } #2f fn g() -> int { "+lets("v", 61)+"0 } #3 struct S { a: T }")
	told(t, "#1#2f fn f(a: int, a: int) -> int { "+lets("v", 59)+"0 } fn main() -> int { 0 }")
	told(t, "fn main() -> int { scope { #1#2f spawn (a = 1, a = 1) { "+lets("v", 59)+"0; } } 0 }")
}

// P6.1: the order of what is told.
func TestOrder(t *testing.T) {
	for _, s := range []string{
		"#2 a = #1 b;", "#1 match x: E { A => { #2 y; } B(b) => { b; #3 z; } }", "#1 lock x as g { #2 y; } #3 z;",
		"if #1 x { #2 y; } else { #3 z; }", "while #1 x { #2 y; } #3 z;", "#1 gone(#2 a, #3 gone(#4 b), #5 c);",
		"#1 set(x, #2 fetch(y, #3 z));", "let a = #1 x; #3 let a = #2 y; { #4 z; } scope { #5 z; }",
		"scope { spawn (a = #1 x, b = #2 y) { #3 z; a; b; } #4 x; }", "#2 let T { a, b } = #1 x; #3 y;",
		"let e = 1; #1#2 match e: T { A(e) => { #3 x; } B(b) => { #4 y; } }",
	} {
		told(t, in(s))
	}
	told(t, "#1#2#3 fn f(a: int, b: T, a: int) -> U { #4 a(#5 b()); #6 x } #7#8 struct S { c: T, c: int } fn main() -> int { #9 y }")
}

// Errors: of what isn't whole just one fault, whatever else is wrong.
func TestNotWhole(t *testing.T) {
	deep := api.Expr{Op: api.EInt}
	for range api.MaxDeep {
		deep = api.Expr{Op: api.ENeg, Args: []api.Expr{deep}}
	}
	for what, change := range map[string]func(x *api.Item){
		"no kind":       func(x *api.Item) { x.Kind = 0 },
		"another kind":  func(x *api.Item) { x.Kind = 4 },
		"no name":       func(x *api.Item) { x.Name = "" },
		"a zero item":   func(x *api.Item) { *x = api.Item{} },
		"too deep":      func(x *api.Item) { x.Return = deep },
		"lent":          func(x *api.Item) { x.Return = api.Expr{Op: api.EShare, Place: api.Place{Name: "a"}} },
		"a word":        func(x *api.Item) { x.Body[0].Name = "let" },
		"none of a sum": func(x *api.Item) { x.Return.Op = api.EAdd },
	} {
		for _, text := range []string{in("let a = 1;"), "struct S { a: T } fn f() -> int { let a = b; 0 }"} {
			p := read(t, text)
			change(&p.Items[len(p.Items)-1])
			if got := Check(p); !slices.Equal(got, []api.Fault{{Err: api.ErrArg}}) {
				t.Errorf("%s: %v", what, got)
			}
		}
	}
	p := api.Program{}
	for i := range api.MaxItems + 1 {
		if got := Check(p); len(got) != 1 || got[0] != (api.Fault{Err: api.ErrMain}) {
			t.Errorf("%d items: %v", i, got)
		}
		p.Items = append(p.Items, api.Item{Kind: api.IStruct, Name: "S" + strconv.Itoa(i)})
	}
	if got := Check(p); !slices.Equal(got, []api.Fault{{Err: api.ErrArg}}) {
		t.Errorf("too many items: %v", got)
	}
}
