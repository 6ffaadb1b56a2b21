package tables

import (
	"reflect"
	"slices"
	"strings"
	"testing"
	"unsafe"

	"weftway/api"
)

// P7.2: those of the first struct or enum of that name, or nothing.
func TestFields(t *testing.T) {
	p := read(t, "fn f(a: int) -> int { 0 } struct S { a: int, b: Box<S> } enum S { A } struct S { c: int } "+
		"enum E { A, B(int), C(&S) } struct E { d: int } struct O { } enum N { } fn g() -> int { 0 }")
	for name, want := range map[string]int{
		"S": 1, "E": 4, "O": 6, "N": 7, "f": -1, "g": -1, "main": -1, "": -1, "s": -1, "S ": -1, "T": -1, "A": -1, "a": -1,
	} {
		l, ok := Fields(p, name)
		var fields []api.Field
		if want >= 0 {
			fields = p.Items[want].Fields
		}
		if ok != (want >= 0) || len(l) != len(fields) || len(l) > 0 && !reflect.DeepEqual(l, fields) || !ok && l != nil {
			t.Errorf("%q: %v, %t", name, l, ok)
		}
	}
	if l, ok := Fields(api.Program{}, "S"); ok || l != nil {
		t.Error(l, ok)
	}
}

// P7.2: of a program that isn't whole too; of no other kind of item.
func TestFieldsNotWhole(t *testing.T) {
	odd := []api.Field{{}, {Name: "a", Type: api.Type{Kind: 77, Args: []api.Type{{}, {Name: "b"}}}}}
	p := api.Program{Items: make([]api.Item, 40)}
	for _, kind := range []uint8{0, api.IFn, 4, 255} {
		p.Items = append(p.Items, api.Item{Kind: kind, Name: "odd", Fields: []api.Field{{Name: "not"}}})
	}
	if l, ok := Fields(p, "odd"); ok || l != nil {
		t.Error(l, ok)
	}
	for _, kind := range []uint8{api.IStruct, api.IEnum} {
		q := api.Program{Items: append(slices.Clone(p.Items), api.Item{Kind: kind, Name: "odd", Fields: odd, At: -1})}
		if l, ok := Fields(q, "odd"); !ok || !reflect.DeepEqual(l, odd) {
			t.Error(l, ok)
		}
	}
	if l, ok := Fields(p, ""); ok || l != nil {
		t.Error(l, ok)
	}
}

// P0.4: what is answered is in memory of its own.
func TestFieldsApart(t *testing.T) {
	s := "struct S { a: Box<Rc<T>>, b: &int } struct T { }"
	p, before := read(t, s), read(t, s)
	p.Items[0].Fields[0].Name = strings.Clone("a")
	room := append(p.Items[0].Fields, api.Field{Name: "behind"})
	p.Items[0].Fields = room[:2]
	l, _ := Fields(p, "S")
	if unsafe.StringData(l[0].Name) == unsafe.StringData(p.Items[0].Fields[0].Name) {
		t.Error("a name is in the memory of the program's")
	}
	l[0].Name, l[0].Type.Args[0].Args[0].Name, l[1].Type.Args[0].Kind = "changed", "changed", 0
	_ = append(l, api.Field{Name: "more"})
	if !reflect.DeepEqual(p, before) || room[2].Name != "behind" {
		t.Errorf("%v", p)
	}
	if again, _ := Fields(p, "S"); !reflect.DeepEqual(again, before.Items[0].Fields) {
		t.Errorf("%v", again)
	}
}

// P0.4: the program stays as it is, and so does the room behind its lists; what is answered is not kept.
func TestCheckApart(t *testing.T) {
	s := "struct S { a: S, b: &int } fn f(a: Box<&int>) -> int { chan<&int>(1) as s, r; { chan<&int>(1) as t, u; } 0 }"
	p, before := read(t, s), read(t, s)
	room := append(p.Items, api.Item{Name: "behind"})
	p.Items = room[:len(p.Items)]
	behind := append(slices.Clone(p.Items[1].Body), api.Stmt{Op: 77})
	p.Items[1].Body = behind[:len(behind)-1]
	first := Check(p)
	for i := range first {
		first[i].At = -1
	}
	_ = append(first, api.Fault{Err: 99})
	second := Check(p)
	if len(second) != 5 || len(first) != 5 || second[0].At < 0 || !slices.Equal(second, Check(p)) {
		t.Error(first, second)
	}
	if !reflect.DeepEqual(p, before) || room[2].Name != "behind" || behind[2].Op != 77 {
		t.Errorf("changed: %v", p)
	}
}

// P0.4: lists that are nil and empty ones are the same.
func TestEmptyLists(t *testing.T) {
	p := read(t, "struct O { } struct S { a: int, b: O, c: Cell<int> } enum E { A, B(&int) } enum N { } fn f() -> int { { } if true { } match x: N { } chan<int>(1) as s, r; 0 }")
	before := Check(p)
	emptied(reflect.ValueOf(&p).Elem())
	if after := Check(p); !slices.Equal(before, after) || len(after) != 1 {
		t.Error(before, after)
	}
	if got := Check(api.Program{Items: []api.Item{}}); got != nil {
		t.Error(got)
	}
	if l, ok := Fields(p, "O"); !ok || len(l) != 0 {
		t.Error(l, ok)
	}
	if !Stands(api.Type{Kind: api.TInt, Args: []api.Type{}}) {
		t.Error("int with an empty list")
	}
}

// emptied makes each list that is nil one that is empty.
func emptied(v reflect.Value) {
	switch v.Kind() {
	case reflect.Struct:
		for i := range v.NumField() {
			emptied(v.Field(i))
		}
	case reflect.Slice:
		if v.IsNil() {
			v.Set(reflect.MakeSlice(v.Type(), 0, 3))
		}
		for i := range v.Len() {
			emptied(v.Index(i))
		}
	}
}
