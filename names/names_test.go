package names

import (
	"regexp"
	"slices"
	"strconv"
	"strings"
	"testing"

	"weftway/api"
	"weftway/parse"
)

// read is the program of a text.
func read(t *testing.T, s string) api.Program {
	t.Helper()
	p, l := parse.Program(s)
	if len(l) > 0 {
		t.Fatalf("%q: %v", s, l)
	}
	return p
}

// marked takes the marks out of a text: ahead of a token `#1` says that the first fault is told there; an `s` behind the number, that it is one of a scope, an `f`, that something is full, else it is one of a name.
func marked(s string) (string, []api.Fault) {
	mark := regexp.MustCompile(`#([0-9]+)([sf]?) *`)
	var bare strings.Builder
	found := map[int]api.Fault{}
	last := 0
	for _, m := range mark.FindAllStringSubmatchIndex(s, -1) {
		bare.WriteString(s[last:m[0]])
		last = m[1]
		number, _ := strconv.Atoi(s[m[2]:m[3]])
		err := map[string]api.Errno{"": api.ErrName, "s": api.ErrScope, "f": api.ErrFull}[s[m[4]:m[5]]]
		found[number] = api.Fault{Err: err, At: bare.Len()}
	}
	bare.WriteString(s[last:])
	var all []api.Fault
	for i := range len(found) {
		all = append(all, found[i+1])
	}
	return bare.String(), all
}

// told checks a text with marks; of one without main ErrMain is asked for, behind all others.
func told(t *testing.T, s string) {
	t.Helper()
	bare, want := marked(s)
	if !strings.Contains(bare, "fn main() -> int {") {
		want = append(want, api.Fault{Err: api.ErrMain})
	}
	if got := Check(read(t, bare)); !slices.Equal(got, want) {
		t.Errorf("%q: %v, want %v", s, got, want)
	}
}

// in is a text of a main with that in its body, behind structs, enums and functions that may be used there.
func in(s string) string {
	return "struct S { a: int, b: Box<S> } struct O { } enum E { A, B(int) } enum N { } " +
		"fn two(a: int, b: S) -> E { E.A } fn none() -> unit { () } fn main() -> int { " + s + " 0 }"
}

// The rows of the chapter's examples.
func TestExamples(t *testing.T) {
	for s, want := range map[string][]api.Fault{
		"fn main() -> int { 0 }":  nil,
		"":                        {{Err: api.ErrMain, At: 0}},
		"fn main() -> bool { 0 }": {{Err: api.ErrMain, At: 0}},
		"fn main() -> int { let a = b; let a = 1; a }":                    {{Err: api.ErrName, At: 27}, {Err: api.ErrName, At: 30}},
		"fn main() -> int { { let a = 1; } a }":                           {{Err: api.ErrName, At: 34}},
		"fn main() -> int { spawn () { } 0 }":                             {{Err: api.ErrScope, At: 19}},
		"fn main() -> int { scope { spawn (a = 1) { spawn () { } } } 0 }": {{Err: api.ErrScope, At: 43}},
		"fn f(a: S) -> int { f() } fn main() -> int { 0 }":                {{Err: api.ErrName, At: 0}, {Err: api.ErrName, At: 20}},
	} {
		if got := Check(read(t, s)); !slices.Equal(got, want) {
			t.Errorf("%q: %v, want %v", s, got, want)
		}
	}
}

// P6.1: names of items, of their fields, variants, parameters, and of their types.
func TestItems(t *testing.T) {
	for _, s := range []string{
		"struct S { } enum T { } fn f() -> int { 0 } fn g() -> int { 0 } fn main() -> int { 0 }",
		"struct S { } #1 struct S { } fn main() -> int { 0 }",
		"struct S { } #1 enum S { } fn main() -> int { 0 }",
		"enum S { } #1 struct S { } #2 enum S { } fn main() -> int { 0 }",
		"fn f() -> int { 0 } #1 fn f() -> int { 0 } fn main() -> int { 0 }",
		"fn main() -> int { 0 } #1 fn main() -> int { 0 }",
		"struct S { a: int, b: int } struct T { a: int, b: int } fn main() -> int { 0 }",
		"#1 struct S { a: int, b: int, a: bool } fn main() -> int { 0 }",
		"#1#2 struct S { a: int, a: int, a: int } fn main() -> int { 0 }",
		"enum S { A, B(int) } enum T { A, B, S, T } fn main() -> int { 0 }",
		"#1 enum S { A, B, A(int) } fn main() -> int { 0 }",
		"#1 fn f(a: int, a: int) -> int { a } fn main() -> int { 0 }",
		"fn f(f: int) -> int { f(f) } fn main() -> int { 0 }",
		// Types, whatever they stand in, may be those of items behind, and of the item itself.
		"struct S { a: T, b: S } struct T { } enum E { A(S), B(E), C(Box<T>) } fn main() -> int { 0 }",
		"#1 struct S { a: T } fn main() -> int { 0 }",
		"#1 struct S { a: Box<Arc<T>>, b: Box<S> } fn main() -> int { 0 }",
		"#1#2 enum S { A(T), B, C(Rc<Mutex<T>>), D(S) } fn main() -> int { 0 }",
		"#1#2#3 fn f(a: &A, b: &mut B) -> Sender<Receiver<C>> { a } fn main() -> int { 0 }",
		"fn f(a: &S) -> Cell<S> { a } struct S { } fn main() -> int { 0 }",
		// A name, and its type: each is told.
		"#1#2#3#4 fn f(a: T, a: U) -> V { 0 } fn main() -> int { 0 }", "#1#2 struct S { a: int, a: T } fn main() -> int { 0 }",
		// A variant's name is no type's name.
		"enum E { A } #1 struct S { a: A } fn main() -> int { 0 }",
	} {
		told(t, s)
	}
}

// P6.1: a main that is there, without parameters, with an int; asked at last.
func TestOfMain(t *testing.T) {
	wrong := api.Fault{Err: api.ErrMain}
	for s, want := range map[string][]api.Fault{
		"fn main() -> int { 0 } fn f() -> int { 0 }": nil,
		"fn f() -> int { 0 } fn main() -> int { 0 }": nil,
		"struct S { }":                                        {wrong},
		"fn mainx() -> int { 0 }":                             {wrong},
		"fn main(a: int) -> int { 0 }":                        {wrong},
		"fn main(a: int) -> bool { 0 }":                       {wrong},
		"fn main() -> Box<int> { 0 }":                         {wrong},
		"fn main() -> unit { () }":                            {wrong},
		"fn main() -> int { a }":                              {{Err: api.ErrName, At: 19}},
		"fn main() -> S { a }":                                {{Err: api.ErrName}, {Err: api.ErrName, At: 17}, wrong},
		"fn main() -> int { 0 } fn main() -> bool { true }":   {{Err: api.ErrName, At: 23}},
		"fn main() -> bool { true } fn main() -> int { 0 }":   {{Err: api.ErrName, At: 27}, wrong},
		"fn main(a: int) -> int { 0 } fn main() -> int { 0 }": {{Err: api.ErrName, At: 29}, wrong},
		"fn f() -> int { drop a; 0 }":                         {{Err: api.ErrName, At: 16}, wrong},
		"  fn main ( ) -> int { spawn ( ) { } 0 } // the place of main is none of the text": {{Err: api.ErrScope, At: 23}},
	} {
		if got := Check(read(t, s)); !slices.Equal(got, want) {
			t.Errorf("%q: %v, want %v", s, got, want)
		}
	}
}

// P6.1: each way to name a variable, where it is there, and where it isn't.
func TestUses(t *testing.T) {
	for _, s := range []string{
		"a;", "let b = &a;", "let b = &mut a;", "two(&a, &mut a);", "get(a);", "clone(a);", "load(a);", "recv(a);",
		"a.x.*;", "let b = &a.x;", "-a;", "not a;", "a + 1;", "1 < a;", "box(a);", "unbox(a);", "none() == a;",
		"S { a = 1, b = a };", "E.B(a);", "if a { }", "while a { }", "let b = a;", "let S { b, c } = a;", "a = a;",
	} {
		told(t, in("let a = 1; "+s))
	}
	for _, s := range []string{
		"#1 a;", "let b = #1 &a;", "let b = #1 &mut a;", "two(#1 &a, #2 &mut a);", "#1 get(a);", "#1 clone(a);",
		"#1 load(a);", "#1 recv(a);", "#1 a.x.*;", "-#1 a;", "not #1 a;", "#1 a + 1;", "1 < #1 a;", "(#1 a) / (#2 a);",
		"box(#1 a);", "unbox(#1 a);", "cell(#1 a);", "rc(arc(#1 a));", "mutex(#1 a);", "open(#1 a);", "atomic(#1 a);",
		"#1 set(a, #2 b);", "#1 store(a, 1);", "#1 fetch(a, #2 load(a));", "#1 send(a, #2 recv(b));",
		"S { a = #1 a, b = #2 b };", "E.B(#1 a);", "if #1 a { } else { }", "while #1 a { }", "let b = #1 a;",
		"let S { b, c } = #1 a;", "#1 a = 1;", "#2 a.x = #1 b;", "#1 drop a;", "#1 lock a.x as g { g; }",
		"#1 match a: E { A => { } B(b) => { b; } }", "scope { spawn (b = #1 &a) { b; } }", "{ #1 a; }",
		// Steps are no variables.
		"let x = 1; x.a.b;", "let x = 1; #1 a.x;",
		// Neither functions nor types nor fields are variables.
		"#1 none;", "let x = S { a = 1, b = 2 }; #1 a;",
	} {
		told(t, in(s))
	}
	told(t, "fn main() -> int { #1 a }")
	told(t, "fn main() -> int { let a = 1; a }")
	told(t, "fn f(a: int) -> int { a } fn main() -> int { #1 a }")
}

// P6.1: from where, and how far, each variable is there.
func TestLives(t *testing.T) {
	for _, s := range []string{
		"let a = #1 a;", "let S { a, b } = #1 a;", "chan<int>(1) as s, r; s; r;", "#1 s; chan<int>(1) as s, r;",
		"#1 lock a as a { a; } #2 a;", "let m = 1; lock m as a { m; a; } m; #1 a;",
		"let e = 1; match e: E { A => { #1 b; } B(b) => { b; } } e; #2 b;",
		"let e = 1; match e: E { B(b) => { b; } A => { #1 b; } }",
		"#1 match e: E { A => { } B(e) => { e; } } #2 e;",
		"{ let a = 1; { a; } } #1 a;", "if true { let a = 1; a; } else { #1 a; } #2 a;",
		"while true { let a = 1; a; } #1 a;", "while #1 a { let a = 1; }", "if #1 a { let a = 1; }",
		"scope { let a = 1; } #1 a;", "let a = 1; scope { if a { while a { { a; } } } }",
		"let a = 1; drop a; a; drop a;", "let a = 1; let e = 1; match e: E { A => { a; e; } B(b) => { a; e; } }",
		// A spawn's body sees its own alone, and nothing of it is seen.
		"let a = 1; scope { spawn () { #1 a; } spawn (b = a) { b; #2 a; } #3 b; }",
		"scope { spawn (a = 1) { let b = a; } spawn (a = 2) { let b = a; b; } #1 a; #2 b; }",
		"scope { spawn (a = 1, b = #1 a) { b; } }", "let a = 1; scope { spawn (a = a) { a; let b = a; } } let b = a;",
		"scope { spawn (a = 1) { scope { spawn (a = a, b = a) { a; b; } spawn () { #1 a; } } } }",
	} {
		told(t, in(s))
	}
}

// P6.1: a name that one of the function's variables has, whether it is there still or not.
func TestTaken(t *testing.T) {
	for _, s := range []string{
		"let a = 1; #1 let a = 1;", "{ let a = 1; } #1 let a = 1;", "{ let a = 1; } { #1 let a = 1; }",
		"if true { let a = 1; } else { #1 let a = 1; }", "let a = 1; while true { #1 let a = a; a; } a;",
		"let a = 1; #1 let S { b, a } = 1; b;", "let S { a, b } = 1; #1 let S { c, b } = 1; c;",
		"let a = 1; #1 chan<int>(1) as a, r; r;", "let a = 1; #1 chan<int>(1) as s, a; s;",
		"let a = 1; #1 lock a as a { a; } a;", "let m = 1; lock m as a { } #1 lock m as a { a; } #2 a;",
		"let e = 1; #1 match e: E { A => { } B(e) => { e; } } e;",
		"let e = 1; match e: E { A => { let b = 1; } B(c) => { } } let f = 1; #1 match f: E { B(b) => { #2 let c = b; c; } A => { } }",
		"let e = 1; match e: E { A => { let b = 1; } B(a) => { a; #1 let b = 1; } }",
		"scope { let a = 1; } #1 let a = 1;", "scope { #1 spawn (a = 1, b = 2, a = 3) { a; } }",
		"scope { spawn (a = 1) { #1 let a = 1; a; } let a = 1; }", "scope { spawn (a = 1) { { let b = a; } #1 let b = a; } }",
		// There all the same: what was there ahead is there still behind the block.
		"let a = 1; { #1 let a = 2; { #2 let a = 3; a; } a; } a;", "{ let a = 1; } #1 let a = 1; { #2 let a = 1; } a;",
		"{ let a = 1; { #1 let a = 1; } a; } #2 a;", "scope { #1 spawn (a = 1, a = 2) { { #2 let a = 1; } a; } }",
	} {
		told(t, in(s))
	}
	told(t, "fn f(a: int) -> int { #1 let a = 1; a } fn main() -> int { let a = 1; a }")
	told(t, "fn f(a: int, b: int) -> int { { #1 let b = 1; } b } fn main() -> int { 0 }")
	told(t, "#1 fn f(a: int, a: int) -> int { #2 let a = 1; a } fn main() -> int { 0 }")
	// Each of the variables that a statement makes is told, once.
	told(t, in("let a = 1; #1#2 let S { a, a } = 1; #3#4#5 let O { a, a } = 1;"))
}
