package lower

import (
	"maps"
	"reflect"
	"slices"
	"strings"
	"testing"

	"weftway/api"
)

// funcsOf are the functions' names, each with how many parameters and slots it has.
func funcsOf(u api.Unit) string {
	var names []string
	for _, f := range u.Funcs {
		names = append(names, f.Name+" "+string(rune('0'+f.Params))+" "+string(rune('0'+f.Slots)))
	}
	return strings.Join(names, "; ")
}

// P18.1: functions stand in the order of their items, whatever stands between; Main is the number of main.
func TestFunctions(t *testing.T) {
	for _, row := range []struct {
		text, want string
		main       int
	}{
		{"fn main() -> int { 0 }", "main 0 0", 0},
		{"fn f() -> int { 0 } fn main() -> int { 0 }", "f 0 0; main 0 0", 1},
		{"fn z(a: int, b: bool) -> int { 0 } struct S { } fn main() -> int { 0 } enum E { } fn a(k: int) -> E { let u = 1; k }", "z 2 2; main 0 0; a 1 2", 1},
		{"enum E { A(int) } struct S { a: E } fn a() -> int { 0 } fn b() -> int { 0 } fn c() -> int { 0 } fn main() -> int { 0 }", "a 0 0; b 0 0; c 0 0; main 0 0", 3},
	} {
		u := lowered(t, row.text)
		if got := funcsOf(u); got != row.want || u.Main != row.main {
			t.Errorf("%s: %s, %d", row.text, got, u.Main)
		}
	}
}

// P18.1: slots are the parameters, and behind them each variable in the order in which it is made, in blocks and arms too.
func TestSlots(t *testing.T) {
	u := lowered(t, "struct S { a: int, b: int } enum E { A(int), B(int) } fn main() -> int { 0 } fn f(p: int, q: E) -> int { "+
		"let a = 1; { let b = 2; } if true { let c = 3; } else { let d = 4; } while false { let e = 5; } let S { g, h } = S { a = 6, b = 7 }; "+
		"match q: E { B(i) => { let j = i; } A(k) => { k; } } lock p as l { let m = l; } chan<int>(1) as s, r; scope { let n = 8; } "+
		"a = b2(a, p); let o = r; let u = s; 0 } fn b2(x: int, y: int) -> int { x }")
	if got := funcsOf(u); got != "main 0 0; f 2 D; b2 2 2" {
		t.Error(got)
	}
	has(t, u.Funcs[1], "const 1 1; live 2; put 2; const 1 2; live 3; put 3; dead 3; const 2 1; branch 14; const 1 3; live 4; put 4; dead 4; jump 18; "+
		"const 1 4; live 5; put 5; dead 5; const 2 0; branch 25; const 1 5; live 6; put 6; dead 6; jump 18; "+
		"const 1 6; const 1 7; struct 2 S; split 2 S; live 7; put 7; live 8; put 8; "+
		"use 1; switch 43,35 E; live 9; put 9; use 9; live 10; put 10; dead 10; dead 9; jump 51; "+
		"live 11; put 11; use 11; live 12; put 12; dead 12; dead 11; jump 51; "+
		"live 13; lock 0 13; use 13; live 14; put 14; dead 14; unlock; dead 13; chan 1; live 15; put 15; live 16; put 16; "+
		"scope; const 1 8; live 17; put 17; dead 17; join; use 2; use 0; call 2 2; drop 2; put 2; "+
		"use 15; live 18; put 18; use 16; live 19; put 19; const 1 0; "+
		"dead 19; dead 18; dead 16; dead 15; dead 8; dead 7; dead 2; dead 1; dead 0; return")
}

// P18.1: what a function's body made dies behind its last expression, the last one first, then the parameters likewise.
func TestEnds(t *testing.T) {
	u := lowered(t, "fn main() -> int { 0 } fn f(a: int, b: int, c: int) -> int { let d = a; let e = b; e + c }")
	has(t, u.Funcs[1], "use 0; live 3; put 3; use 1; live 4; put 4; use 4; use 2; binary 9; dead 4; dead 3; dead 2; dead 1; dead 0; return")
}

// P18.1: a spawn's body is a function with the list's names as parameters, that ends with ().
func TestSpawnBody(t *testing.T) {
	u := lowered(t, "fn main() -> int { let x = 1; let y = 2; scope { let z = 3; spawn (y = &z, a = x) { let x = y.*; a = x; } } y }")
	if got := funcsOf(u); got != "main 0 3; spawn 2 3" {
		t.Error(got)
	}
	has(t, u.Funcs[0], "const 1 1; live 0; put 0; const 1 2; live 1; put 1; scope; const 1 3; live 2; put 2; ref 2; use 0; spawn 1 2; dead 2; join; use 1; dead 1; dead 0; return")
	has(t, u.Funcs[1], "use 0 .*; live 2; put 2; use 2; drop 1; put 1; const 3 0; dead 2; dead 1; dead 0; return")
}

// P18.1: the bodies of spawns stand behind all items' functions, first those that these have, in order, then those within the first body, and so on.
func TestSpawnOrder(t *testing.T) {
	u := lowered(t, "enum E { A, B } "+
		"fn f() -> int { let e = E.A; scope { spawn () { 10; scope { spawn () { 20; } spawn () { 21; } } } "+
		"if true { spawn () { 11; } } else { { spawn () { 12; } } } while true { spawn () { 13; scope { spawn () { 22; scope { spawn () { 30; } } } } } } "+
		"match e: E { B => { spawn () { 14; } } A => { spawn () { 15; } } } } 0 } "+
		"fn main() -> int { let m = 1; scope { lock m as g { spawn () { 16; scope { spawn () { 23; scope { spawn () { 31; } } } } } } scope { spawn () { 17; } } } 0 } "+
		"struct S { } fn g() -> int { scope { spawn () { 18; scope { { spawn () { 24; } } } } } 0 }")
	if got := funcsOf(u); !strings.HasPrefix(got, "f 0 1; main 0 2; g 0 0; spawn 0 1; ") || u.Main != 1 {
		t.Error(got, u.Main)
	}
	var order []int64
	for _, f := range u.Funcs[3:] {
		if f.Name != "spawn" {
			t.Error(f.Name)
		}
		order = append(order, f.Code[0].Int)
	}
	if want := []int64{10, 11, 12, 13, 14, 15, 16, 17, 18, 20, 21, 22, 23, 24, 30, 31}; !slices.Equal(order, want) {
		t.Error(order)
	}
	// Each spawn starts the body that stands with it.
	started := map[int]int{}
	for i, f := range u.Funcs {
		for _, x := range f.Code {
			if x.Op == api.OSpawn {
				started[x.A] = i
			}
		}
	}
	if want := map[int]int{3: 0, 4: 0, 5: 0, 6: 0, 7: 0, 8: 0, 9: 1, 10: 1, 11: 2, 12: 3, 13: 3, 14: 6, 15: 9, 16: 11, 17: 14, 18: 15}; !maps.Equal(started, want) {
		t.Error(started)
	}
}

// P18.1: Types are structs and enums, in order, with their Kind, Name and Fields.
func TestTypes(t *testing.T) {
	kinds := []api.Type{{Kind: api.TInt}, {Kind: api.TNamed, Name: "E"}, {Kind: api.TBox, Args: []api.Type{{Kind: api.TNamed, Name: "S"}}}}
	want := []api.Item{
		{Kind: api.IEnum, Name: "E", Fields: []api.Field{{Name: "A"}, {Name: "B", Type: kinds[2]}}},
		{Kind: api.IStruct, Name: "S", Fields: []api.Field{{Name: "a", Type: kinds[0]}, {Name: "b", Type: kinds[1]}}},
		{Kind: api.IStruct, Name: "N"},
	}
	u := lowered(t, " enum E { A, B(Box<S>) } fn f(a: int) -> int { 0 } struct S { a: int, b: E } fn main() -> int { 0 } struct N { }")
	if !reflect.DeepEqual(u.Types, want) {
		t.Errorf("%+v", u.Types)
	}
	if u = lowered(t, "fn main() -> int { 0 }"); len(u.Types) != 0 {
		t.Error(u.Types)
	}
}
