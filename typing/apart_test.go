package typing

import (
	"reflect"
	"slices"
	"strings"
	"testing"
	"unsafe"

	"weftway/api"
	"weftway/tree"
)

const apartText = "struct S { a: Box<Rc<T>>, b: T, c: Cell<int> } struct T { } enum E { A(Box<Rc<T>>) } fn f(a: &T, b: int) -> Box<Rc<T>> { f(a, b) } "

// P0.4: what is answered is in memory of its own, wherever it comes from.
func TestAnswerApart(t *testing.T) {
	for i, e := range []api.Expr{
		use("x"), made(api.EBox, use("x")), made(api.EUnbox, use("x")), at(api.EShare, "y.a"), at(api.EMut, "y.b"), at(api.EGet, "c"), at(api.ERecv, "t"), at(api.EClone, "t"), made(api.EUnbox, made(api.EBox, use("x"))), made(api.EMutex, use("t")),
		{Op: api.ECall, Name: strings.Clone("f"), Args: []api.Expr{at(api.EShare, "y.b"), made(api.EInt)}}, {Op: api.EEnum, Name: strings.Clone("E"), Second: "A", Args: []api.Expr{use("x")}}, {Op: api.EStruct, Name: strings.Clone("T")},
	} {
		for range 2 {
			p, before := read(t, apartText), read(t, apartText)
			env := []api.Field{{Name: "x", Type: typeOf("Box Rc T")}, {Name: "y", Type: typeOf("S")}, {Name: "c", Type: typeOf("Cell int")}, {Name: "t", Type: typeOf("Receiver Rc T")}}
			same := tree.Copy(api.Program{Items: []api.Item{{Fields: env}}}).Items[0].Fields
			expr := tree.Copy(api.Program{Items: []api.Item{{Return: e}}}).Items[0].Return
			got, ok := Expr(p, env, e)
			other, _ := Expr(p, env, e)
			if !ok {
				t.Fatal(i)
			}
			for _, s := range handedIn(p, env, e) {
				for _, own := range namesOf(got) {
					if unsafe.StringData(s) == unsafe.StringData(own) {
						t.Errorf("%d: %q is in the memory of what was handed in", i, own)
					}
				}
			}
			scratch(&got)
			if again, _ := Expr(p, env, e); !tree.SameType(again, other) || !reflect.DeepEqual(p, before) || !reflect.DeepEqual(env, same) || !reflect.DeepEqual(e, expr) {
				t.Errorf("%d: changed with the answer", i)
			}
		}
	}
}

// scratch changes all of a type, and the room behind it.
func scratch(t *api.Type) {
	for i := range t.Args {
		scratch(&t.Args[i])
	}
	_ = append(t.Args, api.Type{Kind: 77})
	t.Kind, t.Name = 99, "scratched"
}

func namesOf(t api.Type) []string {
	var all []string
	if t.Name != "" {
		all = append(all, t.Name)
	}
	for _, x := range t.Args {
		all = append(all, namesOf(x)...)
	}
	return all
}

// handedIn are the names of all types that are handed in, and those in the expression.
func handedIn(p api.Program, env []api.Field, e api.Expr) []string {
	all := []string{e.Name}
	for _, x := range p.Items {
		all = append(append(all, x.Name), namesOf(x.Result)...)
		env = append(slices.Clone(env), x.Fields...)
	}
	for _, f := range env {
		all = append(all, namesOf(f.Type)...)
	}
	return slices.DeleteFunc(all, func(s string) bool { return s == "" })
}

// P0.4: nothing that is handed in is changed, the room behind it neither: a body's variables are put elsewhere than behind the parameters.
func TestRoomBehind(t *testing.T) {
	text := apartText + "fn g(a: S) -> int { let b = 1; let S { c, d, e } = a; chan<int>(1) as h, i; { let j = b; } scope { spawn (k = b) { let l = k; } } b } fn main() -> int { 0 }"
	p := read(t, text)
	for i := range p.Items {
		fields := append(slices.Clone(p.Items[i].Fields), api.Field{Name: "behind"}, api.Field{Name: "behind"}, api.Field{Name: "behind"})
		p.Items[i].Fields = fields[: len(fields)-3 : len(fields)]
		body := append(slices.Clone(p.Items[i].Body), api.Stmt{Name: "behind"})
		p.Items[i].Body = body[: len(body)-1 : len(body)]
	}
	env := append(envOf("S", "int"), api.Field{Name: "behind"})
	args := []api.Expr{use("v0"), {Name: "behind"}}
	path := []string{"a", "*", "behind"}
	for range 2 {
		if got := Check(p); got != nil {
			t.Fatal(got)
		}
		if got := rowOf(p, env[:2], made(api.EBox, args[:1]...)); got != "Box S" {
			t.Error(got)
		}
		if got, _, _ := Place(p, env[:2], api.Place{Name: "v0", Path: path[:2]}); words(got) != "Rc T" {
			t.Error(got)
		}
		if got := rowOf(p, env[:2], use("behind")); got != "-" {
			t.Error(got)
		}
	}
	for i, x := range p.Items {
		all := x.Fields[:cap(x.Fields)]
		if !reflect.DeepEqual(all[len(all)-3:], []api.Field{{Name: "behind"}, {Name: "behind"}, {Name: "behind"}}) || x.Body[:cap(x.Body)][len(x.Body)].Name != "behind" {
			t.Error(i, all)
		}
		p.Items[i].Fields, p.Items[i].Body = slices.Clip(x.Fields), slices.Clip(x.Body)
	}
	if !tree.Same(p, read(t, text)) || env[2].Name != "behind" || args[1].Name != "behind" || path[2] != "behind" {
		t.Error("changed")
	}
}

// P0.4: lists that are nil and empty ones are the same.
func TestEmptyLists(t *testing.T) {
	for _, p := range []api.Program{{}, {Items: []api.Item{}}} {
		for _, env := range [][]api.Field{nil, {}} {
			for _, e := range []api.Expr{{Op: api.EInt}, {Op: api.EInt, Args: []api.Expr{}, Place: api.Place{Path: []string{}}}} {
				if got := rowOf(p, env, e); got != "int" {
					t.Error(got)
				}
			}
			if got := rowOf(p, env, use("x")); got != "-" {
				t.Error(got)
			}
		}
		if got := Check(p); !slices.Equal(got, []api.Fault{{Err: api.ErrArg}}) {
			t.Error(got)
		}
	}
	p := read(t, "struct O { } enum E { A } fn f() -> O { O { } } fn g() -> E { E.A } fn main() -> int { f(); let a = box(f()); 0 }")
	q := emptied(p)
	if Check(p) != nil || Check(q) != nil {
		t.Error(Check(p), Check(q))
	}
	env := []api.Field{{Name: "x", Type: api.Type{Kind: api.TInt, Args: []api.Type{}}}}
	if got := rowOf(q, env, made(api.ENeg, use("x"))); got != "int" {
		t.Error(got)
	}
}

// emptied is the program with an empty list for each that is nil.
func emptied(p api.Program) api.Program {
	q := tree.Copy(p)
	var each func(v reflect.Value)
	each = func(v reflect.Value) {
		if v.Kind() == reflect.Slice && v.IsNil() {
			v.Set(reflect.MakeSlice(v.Type(), 0, 2))
		}
		eachPart(v, each)
	}
	each(reflect.ValueOf(&q).Elem())
	return q
}
