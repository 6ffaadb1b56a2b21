package typing

import (
	"slices"
	"strconv"
	"testing"

	"weftway/api"
	"weftway/tree"
)

// P10.1: ErrArg alone, at 0, of a program that isn't whole, or in which chapter 6 or 7 finds something; what is wrong with its types isn't told then.
func TestProgramRefused(t *testing.T) {
	want := []api.Fault{{Err: api.ErrArg}}
	for _, s := range []string{
		"", "fn f() -> int { 0 }", "fn main() -> int { x }", "fn main() -> bool { true }", "fn main() -> int { true + 1; x; 0 }", "fn main() -> int { f(); 0 }", "fn main() -> int { spawn () { } 0 }", "fn main() -> int { let a = 1; let a = true; -a }",
		"struct S { a: S } fn main() -> int { true }", "struct S { a: &int } fn main() -> int { 0 }", "fn f(a: Cell<Atomic>) -> int { 0 } fn main() -> int { true }", "fn main() -> int { chan<&int>(1) as a, b; 0 }", "fn f(a: &int) -> &int { a } fn main() -> int { 0 }",
	} {
		if got := Check(read(t, s)); !slices.Equal(got, want) {
			t.Errorf("%q: %v", s, got)
		}
	}
	p := read(t, "fn main() -> int { 0 }")
	for i, q := range []api.Program{
		{Items: slices.Repeat(p.Items, 31)}, {Items: append(slices.Clone(p.Items), api.Item{})}, {Items: []api.Item{{Kind: api.IFn, Name: "main", Result: typeOf("int")}}}, {Items: []api.Item{{Kind: api.IFn, Name: "main", Result: typeOf("int"), Return: api.Expr{Op: api.EInt, Int: -1}}}},
		{Items: []api.Item{{Kind: api.IFn, Name: "main", Result: typeOf("int"), Return: at(api.EShare, "x")}}}, {Items: []api.Item{{Kind: api.IFn, Name: "main", Result: typeOf("int"), Return: made(api.EInt), Body: []api.Stmt{{Op: api.SLet, Name: "x"}}}}},
		{Items: []api.Item{{Kind: api.IFn, Name: "main", Result: typeOf("int"), Return: made(api.EInt), Body: []api.Stmt{{}, {Op: 99}, {Op: api.SMatch}, {Op: api.STake, Names: []string{"a"}}}}}},
	} {
		if got := Check(q); !slices.Equal(got, want) {
			t.Error(i, got)
		}
	}
}

// oddTypes are types that aren't whole.
func oddTypes() []api.Type {
	whole, mut := typeOf("int"), typeOf("mut int")
	return []api.Type{
		{}, {Kind: 77}, {Name: "S"}, {Kind: 0, Args: []api.Type{whole}}, {Kind: api.TInt, Name: "S"}, {Kind: api.TBool, Name: "S"}, {Kind: api.TInt, Args: []api.Type{whole}}, {Kind: api.TUnit, Args: []api.Type{{}}}, {Kind: api.TAtomic, Name: "a"}, {Kind: api.TNamed}, {Kind: api.TNamed, Name: "S", Args: []api.Type{whole}},
		{Kind: api.TBox}, {Kind: api.TBox, Args: []api.Type{whole, whole}}, {Kind: api.TBox, Name: "S", Args: []api.Type{whole}}, {Kind: api.TMutex}, {Kind: api.TMutex, Name: "S", Args: []api.Type{whole}}, {Kind: api.TCell}, {Kind: api.TCell, Args: []api.Type{whole, whole}}, {Kind: api.TRc, Name: "S", Args: []api.Type{whole}},
		{Kind: api.TRc}, {Kind: api.TArc, Args: []api.Type{whole, whole}}, {Kind: api.TSender}, {Kind: api.TReceiver, Args: []api.Type{whole, whole, whole}}, {Kind: api.TReceiver, Name: "x", Args: []api.Type{whole}}, {Kind: 77, Args: []api.Type{mut}}, {Kind: api.TBox, Args: []api.Type{whole, mut}}, {Kind: api.TMut}, {Kind: api.TInt, Args: []api.Type{mut}},
	}
}

// oddProgram has a function g0, g1, .. for each of the types, and one h0, h1, .. that asks for it.
func oddProgram(l []api.Type) api.Program {
	p := api.Program{Items: []api.Item{{Kind: api.IStruct, Name: "S"}, {Kind: api.IEnum, Name: "E"}}}
	for i, x := range l {
		n := strconv.Itoa(i)
		p.Items = append(p.Items,
			api.Item{Kind: api.IFn, Name: "g" + n, Result: x},
			api.Item{Kind: api.IFn, Name: "h" + n, Fields: []api.Field{{Name: "a", Type: x}}, Result: typeOf("unit")})
		p.Items[0].Fields = append(p.Items[0].Fields, api.Field{Name: "f" + n, Type: x})
		p.Items[1].Fields = append(p.Items[1].Fields, api.Field{Name: "V" + n, Type: x})
	}
	return p
}

// P10.3: types that aren't whole are the same as they are for chapter 3, and fit where any type does; none of them is an int, a Box, and so on.
func TestOddTypes(t *testing.T) {
	l := oddTypes()
	p := oddProgram(l)
	env := []api.Field{{Name: "s", Type: typeOf("S")}}
	same := func(what string, e api.Expr, want api.Type) {
		t.Helper()
		if got, ok := Expr(p, env, e); !ok || !tree.SameType(got, want) {
			t.Errorf("%s: %+v %t, want %+v", what, got, ok, want)
		}
	}
	none := func(what string, e api.Expr) {
		t.Helper()
		if got, ok := Expr(p, env, e); ok || !tree.SameType(got, api.Type{}) {
			t.Errorf("%s: %+v %t", what, got, ok)
		}
	}
	for i, x := range l {
		n := strconv.Itoa(i)
		e := api.Expr{Op: api.ECall, Name: "g" + n}
		same(n, e, x)
		owned := i != 24 && i != 25 && i != 26 && i != 27
		for op, kind := range map[uint8]uint8{api.EBox: api.TBox, api.ERc: api.TRc, api.EArc: api.TArc, api.EMutex: api.TMutex} {
			if owned {
				same(n+" within", made(op, e), of(kind, x))
			} else {
				none(n+" within", made(op, e))
			}
		}
		for _, op := range []uint8{api.ENeg, api.ENot, api.EUnbox, api.EOpen, api.ECell, api.EAtomic} {
			none(n+" asked", made(op, e))
		}
		for op := api.EAdd; op <= api.EOr; op++ {
			none(n+" asked at a side", made(op, e, made(api.EInt)))
			none(n+" asked at a side", made(op, made(api.EBool), e))
		}
		for k := range l {
			h := api.Expr{Op: api.ECall, Name: "h" + strconv.Itoa(k), Args: []api.Expr{e}}
			v := api.Expr{Op: api.EEnum, Name: "E", Second: "V" + strconv.Itoa(k), Args: []api.Expr{e}}
			if i != k {
				none(n+" for another", h)
				none(n+" for another", v)
				continue
			}
			same(n, h, typeOf("unit"))
			if i > 0 {
				same(n, v, typeOf("E"))
			}
		}
		none(n+" by a payload that is none", api.Expr{Op: api.EEnum, Name: "E", Second: "V0", Args: []api.Expr{e}})
		if i > 0 {
			none(n+" without its payload", api.Expr{Op: api.EEnum, Name: "E", Second: "V" + n})
		}
		if owned {
			same(n+" taken out", made(api.EUnbox, made(api.EBox, e)), x)
		}
	}
	same("no payload", api.Expr{Op: api.EEnum, Name: "E", Second: "V0"}, typeOf("E"))
}

// P10.3: at places likewise.
func TestOddPlaces(t *testing.T) {
	l := oddTypes()
	p := oddProgram(l)
	env := []api.Field{{Name: "s", Type: typeOf("S")}}
	for i, x := range l {
		place := "s.f" + strconv.Itoa(i)
		if got, writable, ok := Place(p, env, use(place).Place); !ok || !writable || !tree.SameType(got, x) {
			t.Errorf("%s: %+v", place, got)
		}
		for op, kind := range map[uint8]uint8{api.EShare: api.TRef, api.EMut: api.TMut} {
			if got, ok := Expr(p, env, at(op, place)); !ok || !tree.SameType(got, of(kind, x)) {
				t.Errorf("%s: %+v", place, got)
			}
		}
		for _, op := range []uint8{api.EGet, api.EClone, api.ELoad, api.ERecv} {
			if got := rowOf(p, env, at(op, place)); got != "-" {
				t.Errorf("%s, %d: %s", place, op, got)
			}
		}
		for _, op := range []uint8{api.ESet, api.EStore, api.EFetch, api.ESend} {
			if got := rowOf(p, env, at(op, place, made(api.EInt))); got != "-" {
				t.Errorf("%s, %d: %s", place, op, got)
			}
		}
		// Chapter 8 tells by the kind alone what is copied.
		got, ok := Expr(p, env, use(place))
		copied := x.Kind == api.TInt || x.Kind == api.TBool || x.Kind == api.TUnit
		if ok != copied || ok && !tree.SameType(got, x) {
			t.Errorf("%s: %+v %t", place, got, ok)
		}
	}
}

// P10.3, P0.1: a type that is far deeper than what is whole.
func TestFarTooDeep(t *testing.T) {
	deep, mixed := typeOf("int"), typeOf("ref int")
	for range 40000 {
		deep, mixed = of(api.TRc, deep), of(api.TRc, mixed)
	}
	p := oddProgram([]api.Type{{}, deep, mixed})
	e, m := api.Expr{Op: api.ECall, Name: "g1"}, api.Expr{Op: api.ECall, Name: "g2"}
	if got, ok := Expr(p, nil, made(api.EBox, e)); !ok || !tree.SameType(got, of(api.TBox, deep)) {
		t.Error("boxed")
	}
	for i, e := range []api.Expr{made(api.EBox, m), made(api.ECell, e), made(api.EUnbox, e), {Op: api.ECall, Name: "h1", Args: []api.Expr{m}}, {Op: api.ECall, Name: "h2", Args: []api.Expr{e}}} {
		if got := rowOf(p, nil, e); got != "-" {
			t.Error(i)
		}
	}
	if got := rowOf(p, nil, api.Expr{Op: api.ECall, Name: "h1", Args: []api.Expr{e}}); got != "unit" {
		t.Error(got)
	}
	if _, _, ok := Place(p, []api.Field{{Name: "x", Type: deep}}, use("x").Place); ok {
		t.Error("a place")
	}
}

// P0.1: a program with more items, an environment with more variables, a body with more statements than a text has.
func TestMany(t *testing.T) {
	var p api.Program
	var env []api.Field
	for i := range 3000 {
		n := strconv.Itoa(i)
		p.Items = append(p.Items, api.Item{Kind: api.IStruct, Name: "S" + n, Fields: []api.Field{{Name: "a", Type: named("S" + strconv.Itoa((i+1)%3000))}}})
		env = append(env, api.Field{Name: "v" + n, Type: named("S" + n)})
	}
	if got := rowOf(p, env, at(api.EShare, "v2998.a.a.a.a")); got != "ref S2" {
		t.Error(got)
	}
	if got := rowOf(p, env, use("v7")); got != "S7" {
		t.Error(got)
	}
	q := read(t, "fn main() -> int { let a = box(1); a.* = main() + 1; main() }")
	q.Items[0].Body = append(q.Items[0].Body[:1:1], slices.Repeat(q.Items[0].Body[1:], 20000)...)
	if got := Check(q); got != nil {
		t.Error(got)
	}
}
