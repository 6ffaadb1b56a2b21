package lower

import (
	"slices"
	"strings"
	"testing"

	"weftway/api"
	"weftway/code"
	"weftway/names"
	"weftway/parse"
)

func read(t *testing.T, text string) api.Program {
	t.Helper()
	p, faults := parse.Program(text)
	if len(faults) > 0 {
		t.Fatal(faults, text)
	}
	return p
}

// lowered is the unit of a text that has one.
func lowered(t *testing.T, text string) api.Unit {
	t.Helper()
	u, e := Program(read(t, text))
	if e != api.OK {
		t.Fatal(e, text)
	}
	return u
}

func textsOf(l []api.Instr) []string {
	var texts []string
	for _, x := range l {
		texts = append(texts, code.Text(x))
	}
	return texts
}

// has asks for a function's code, instructions being parted by `; `.
func has(t *testing.T, f api.Func, want string) {
	t.Helper()
	if got := strings.Join(textsOf(f.Code), "; "); got != want {
		t.Errorf("%s\n got %s\nwant %s", f.Name, got, want)
	}
}

// main asks for main's code.
func main(t *testing.T, text, want string) {
	t.Helper()
	u := lowered(t, text)
	has(t, u.Funcs[u.Main], want)
}

// P18.1: the chapter's examples.
func TestExamples(t *testing.T) {
	main(t, "fn main() -> int { 3 }", "const 1 3; return")
	main(t, "fn main() -> int { let x = 1; x = x + 2; x }", "const 1 1; live 0; put 0; use 0; const 1 2; binary 9; drop 0; put 0; use 0; dead 0; return")
	text := "fn main() -> int { scope { spawn () { } } 0 }"
	main(t, text, "scope; spawn 1 0; join; const 1 0; return")
	u := lowered(t, text)
	if len(u.Funcs) != 2 || u.Funcs[1].Name != "spawn" {
		t.Fatal(u)
	}
	has(t, u.Funcs[1], "const 3 0; return")
}

// ahead is what stands ahead of main where rows are asked.
const ahead = "struct P { a: int, b: int } struct N { } enum E { A, B(int), C } enum V { } fn one() -> int { 1 } fn two(a: int, b: &int) -> int { a } "

// within asks for what stands in main between three variables x, y, z (the slots 0, 1, 2), made ahead, and their end.
func within(t *testing.T, body, want string) {
	t.Helper()
	u := lowered(t, ahead+"fn main() -> int { let x = 1; let y = 2; let z = 3; "+body+" }")
	all := strings.Join(textsOf(u.Funcs[u.Main].Code), "; ")
	begin := "const 1 1; live 0; put 0; const 1 2; live 1; put 1; const 1 3; live 2; put 2; "
	end := "; dead 2; dead 1; dead 0; return"
	if all != begin+want+end {
		t.Errorf("%s\n got %s\nwant %s", body, all, begin+want+end)
	}
}

// P18.1: what an expression becomes.
func TestExprs(t *testing.T) {
	for _, row := range [][2]string{
		{"0", "const 1 0"},
		{"9223372036854775807", "const 1 9223372036854775807"},
		{"true", "const 2 1"},
		{"false", "const 2 0"},
		{"()", "const 3 0"},
		{"y", "use 1"},
		{"y.a.*.b", "use 1 .a.*.b"},
		{"-y", "use 1; unary 7"},
		{"not y", "use 1; unary 8"},
		{"- - y", "use 1; unary 7; unary 7"},
		{"x + y", "use 0; use 1; binary 9"},
		{"x - y", "use 0; use 1; binary 10"},
		{"x * y", "use 0; use 1; binary 11"},
		{"x / y", "use 0; use 1; binary 12"},
		{"x % y", "use 0; use 1; binary 13"},
		{"x < y", "use 0; use 1; binary 14"},
		{"x == y", "use 0; use 1; binary 15"},
		{"x and y", "use 0; use 1; binary 16"},
		{"x or y", "use 0; use 1; binary 17"},
		{"x - (y * z) / 4", "use 0; use 1; use 2; binary 11; const 1 4; binary 12; binary 10"},
		{"one()", "call 0 0"},
		{"two(y, x)", "use 1; use 0; call 1 2"},
		{"two(&y.a, &mut x.*)", "ref 1 .a; mut 0 .*; call 1 2"},
		{"two(one(), two(1, 2)) + 3", "call 0 0; const 1 1; const 1 2; call 1 2; call 1 2; const 1 3; binary 9"},
		{"main()", "call 2 0"},
		{"P { a = z, b = 7 }", "use 2; const 1 7; struct 2 P"},
		{"N { }", "struct 0 N"},
		{"E.A", "enum 0 0 E"},
		{"E.B(y)", "use 1; enum 1 1 E"},
		{"E.C", "enum 2 0 E"},
		{"box(y)", "use 1; wrap 6"},
		{"cell(y)", "use 1; wrap 7"},
		{"rc(y)", "use 1; wrap 8"},
		{"arc(y)", "use 1; wrap 9"},
		{"mutex(y)", "use 1; wrap 10"},
		{"atomic(y)", "use 1; wrap 11"},
		{"unbox(y)", "use 1; unwrap 6"},
		{"open(y)", "use 1; unwrap 10"},
		{"unbox(box(y.a))", "use 1 .a; wrap 6; unwrap 6"},
		{"get(y.*)", "cellget 1 .*"},
		{"load(y)", "load 1"},
		{"clone(y.a.*)", "clone 1 .a.*"},
		{"recv(y)", "recv 1"},
		{"set(y.*, x)", "use 0; cellset 1 .*"},
		{"store(y, x + 1)", "use 0; const 1 1; binary 9; store 1"},
		{"fetch(y.a, x)", "use 0; fetch 1 .a"},
		{"send(y, recv(x))", "recv 0; send 1"},
	} {
		within(t, row[0], row[1])
	}
}

// P18.1: a place is at most MaxDeep steps long, and all of them stay.
func TestLongPlace(t *testing.T) {
	steps := strings.Repeat(".*.long", api.MaxDeep/2)
	within(t, "x"+steps, "use 0 "+steps)
}

// P18.1: what a statement becomes that has no block.
func TestStatements(t *testing.T) {
	for _, row := range [][2]string{
		{"let v = x; v", "use 0; live 3; put 3; use 3; dead 3"},
		{"let v = &x.a; 0", "ref 0 .a; live 3; put 3; const 1 0; dead 3"},
		{"let v = &mut x.*; 0", "mut 0 .*; live 3; put 3; const 1 0; dead 3"},
		{"let v = 4; let w = v; 0", "const 1 4; live 3; put 3; use 3; live 4; put 4; const 1 0; dead 4; dead 3"},
		{"let P { v, w } = x; w", "use 0; split 2 P; live 3; put 3; live 4; put 4; use 4; dead 4; dead 3"},
		{"let N { } = N { }; 0", "struct 0 N; split 0 N; const 1 0"},
		{"x = y; 0", "use 1; drop 0; put 0; const 1 0"},
		{"y.*.a = x + 1; 0", "use 0; const 1 1; binary 9; drop 1 .*.a; put 1 .*.a; const 1 0"},
		{"x; 0", "use 0; live 3; put 3; dead 3; const 1 0"},
		{"one(); let v = 4; box(v); v", "call 0 0; live 3; put 3; dead 3; const 1 4; live 4; put 4; use 4; wrap 6; live 5; put 5; dead 5; use 4; dead 4"},
		{"drop y; 0", "drop 1; const 1 0"},
		{"chan<int>(1) as s, r; 0", "chan 1; live 3; put 3; live 4; put 4; const 1 0; dead 4; dead 3"},
		{"chan<E>(8) as s, r; send(s, recv(r))", "chan 8; live 3; put 3; live 4; put 4; recv 3; send 4; dead 4; dead 3"},
	} {
		within(t, row[0], row[1])
	}
}

// P18.1: what a statement becomes that has blocks.
func TestBlocks(t *testing.T) {
	for _, row := range [][2]string{
		{"if x { y = 1; } 0", "use 0; branch 15; const 1 1; drop 1; put 1; jump 15; const 1 0"},
		{"if x { } 0", "use 0; branch 12; jump 12; const 1 0"},
		{"if x < 2 { drop x; } else { drop y; drop z; } 0", "use 0; const 1 2; binary 14; branch 15; drop 0; jump 17; drop 1; drop 2; const 1 0"},
		{"if x { let v = 1; let w = 2; } else { let u = 3; } 0", "use 0; branch 20; const 1 1; live 3; put 3; const 1 2; live 4; put 4; dead 4; dead 3; jump 24; const 1 3; live 5; put 5; dead 5; const 1 0"},
		{"while x < y { drop z; } 0", "use 0; use 1; binary 14; branch 15; drop 2; jump 9; const 1 0"},
		{"while x { } 0", "use 0; branch 12; jump 9; const 1 0"},
		{"while x { let v = 1; } 0", "use 0; branch 16; const 1 1; live 3; put 3; dead 3; jump 9; const 1 0"},
		{"while x { if y { while z { } } else { drop z; } } drop x; 0", "use 0; branch 19; use 1; branch 17; use 2; branch 16; jump 13; jump 18; drop 2; jump 9; drop 0; const 1 0"},
		{"{ let v = 1; { let w = v; } let u = 2; } let k = 3; 0", "const 1 1; live 3; put 3; use 3; live 4; put 4; dead 4; const 1 2; live 5; put 5; dead 5; dead 3; const 1 3; live 6; put 6; const 1 0; dead 6"},
		{"{ } 0", "const 1 0"},
		{"{ chan<int>(2) as s, r; let P { v, w } = y; } 0", "chan 2; live 3; put 3; live 4; put 4; use 1; split 2 P; live 5; put 5; live 6; put 6; dead 6; dead 5; dead 4; dead 3; const 1 0"},
		{"scope { } 0", "scope; join; const 1 0"},
		{"scope { let v = 1; scope { let w = 2; } } 0", "scope; const 1 1; live 3; put 3; scope; const 1 2; live 4; put 4; dead 4; join; dead 3; join; const 1 0"},
		{"lock x.a.* as g { } 0", "live 3; lock 0 .a.* 3; unlock; dead 3; const 1 0"},
		{"lock x as g { let v = g.*; lock y as h { } } 0", "live 3; lock 0 3; use 3 .*; live 4; put 4; live 5; lock 1 5; unlock; dead 5; dead 4; unlock; dead 3; const 1 0"},
		{"scope { spawn (a = x, b = &y.*, c = 1 + z) { } } 0", "scope; use 0; ref 1 .*; const 1 1; use 2; binary 9; spawn 3 3; join; const 1 0"},
	} {
		within(t, row[0], row[1])
	}
}

// P18.1: of a match each variant's arm is told in the enum's order, while the arms stand in their own.
func TestMatch(t *testing.T) {
	for _, row := range [][2]string{
		{"match y: E { A => { } B(v) => { } C => { } } 0", "use 1; switch 11,12,16 E; jump 17; live 3; put 3; dead 3; jump 17; jump 17; const 1 0"},
		{"match y: E { C => { drop x; } B(v) => { let w = v; x = w; } A => { let u = 1; } } 0", "use 1; switch 24,13,11 E; drop 0; jump 29; live 3; put 3; use 3; live 4; put 4; use 4; drop 0; put 0; dead 4; dead 3; jump 29; const 1 1; live 5; put 5; dead 5; jump 29; const 1 0"},
		{"match y: E { B(v) => { v; } C => { } A => { } } 0", "use 1; switch 20,11,19 E; live 3; put 3; use 3; live 4; put 4; dead 4; dead 3; jump 21; jump 21; jump 21; const 1 0"},
		{"match z: V { } 0", "use 2; switch V; const 1 0"},
		{"match y: E { A => { match x: V { } } B(v) => { match v: E { C => { } B(w) => { } A => { } } } C => { } } 0", "use 1; switch 11,14,26 E; use 0; switch V; jump 27; live 3; put 3; use 3; switch 23,19,18 E; jump 24; live 4; put 4; dead 4; jump 24; jump 24; dead 3; jump 27; jump 27; const 1 0"},
	} {
		within(t, row[0], row[1])
	}
}

// P18.1: a name is looked for where it stands for that: what is a struct's as well as a function's or a variant's, of each enum its own.
func TestSameNames(t *testing.T) {
	main(t, "enum A { B, C(int), A } enum D { A, B } struct C { a: int, main: int } fn a(a: int) -> int { a } "+
		"fn main() -> int { let a = a(1); let main = C { a = a, main = main() }; let b = A.A; match b: A { A => { } C(c) => { } B => { } } b = D.A; D.B; main }",
		"const 1 1; call 0 1; live 0; put 0; use 0; call 1 0; struct 2 C; live 1; put 1; enum 2 0 A; live 2; put 2; use 2; switch 19,15,14 A; "+
			"jump 20; live 3; put 3; dead 3; jump 20; jump 20; enum 0 0 D; drop 2; put 2; enum 1 0 D; live 4; put 4; dead 4; use 1; dead 2; dead 1; dead 0; return")
}

// P18.1: ErrArg, unless the names are right; nothing beside it.
func TestArg(t *testing.T) {
	for _, text := range []string{
		"", "struct S { }", "fn f() -> int { 0 }", "fn main() -> bool { true }", "fn main(a: int) -> int { 0 }",
		"fn main() -> int { a }", "fn main() -> int { f() }", "fn main() -> int { let a = 1; let a = 2; 0 }",
		"fn main() -> int { spawn () { } 0 }", "fn main() -> int { E.A }", "fn main() -> int { let m = 1; match m: E { } 0 }",
		"enum E { A } fn main() -> int { let m = 1; match m: E { } 0 }", "struct S { } struct S { } fn main() -> int { 0 }",
		"fn f(a: T) -> int { 0 } fn main() -> int { 0 }", "fn main() -> int { 0 } fn main() -> int { 0 }",
	} {
		p := read(t, text)
		if len(names.Check(p)) == 0 {
			t.Error("right:", text)
		}
		refused(t, p, api.ErrArg)
	}
}

func refused(t *testing.T, p api.Program, want api.Errno) {
	t.Helper()
	u, e := Program(p)
	if e != want || u.Funcs != nil || u.Main != 0 || u.Types != nil {
		t.Error(e, len(u.Funcs), u.Main, u.Types)
	}
}

// P18.1: what isn't whole has no right names.
func TestUnwhole(t *testing.T) {
	number := api.Expr{Op: api.EInt}
	whole := func() api.Program {
		return api.Program{Items: []api.Item{{Kind: api.IFn, Name: "main", Result: api.Type{Kind: api.TInt}, Return: number}}}
	}
	if _, e := Program(whole()); e != api.OK {
		t.Fatal(e)
	}
	for i, spoil := range []func(x *api.Item){
		func(x *api.Item) { x.Return = api.Expr{} },
		func(x *api.Item) { x.Return = api.Expr{Op: 99} },
		func(x *api.Item) { x.Return = api.Expr{Op: api.EShare, Place: api.Place{Name: "x"}} },
		func(x *api.Item) { x.Return.Int = -1 },
		func(x *api.Item) { x.Kind = 0 },
		func(x *api.Item) { x.Kind = 9 },
		func(x *api.Item) { x.Body = []api.Stmt{{}} },
		func(x *api.Item) { x.Body = []api.Stmt{{Op: 255}} },
		func(x *api.Item) { x.Body = []api.Stmt{{Op: api.SLet, Name: "a"}} },
		func(x *api.Item) { x.Body = []api.Stmt{{Op: api.SDo, Exprs: []api.Expr{number, number}}} },
		func(x *api.Item) { x.Body = []api.Stmt{{Op: api.SSpawn, Names: []string{"a"}}} },
		func(x *api.Item) { x.Return = api.Expr{Op: api.ENeg, Args: slices.Repeat([]api.Expr{number}, 2)} },
	} {
		p := whole()
		spoil(&p.Items[0])
		if u, e := Program(p); e != api.ErrArg || u.Funcs != nil {
			t.Error(i, e, u)
		}
	}
}
