package names

import (
	"reflect"
	"slices"
	"strings"
	"testing"
	"unsafe"

	"weftway/api"
)

// P6.2: the first of that kind and name, or nothing.
func TestFind(t *testing.T) {
	p := read(t, "struct S { a: int } enum S { A } struct S { b: int } fn f() -> int { 0 } fn f(a: S) -> bool { let x = 1; true } enum E { }")
	for _, c := range []struct {
		kind uint8
		name string
		want int
	}{
		{api.IStruct, "S", 0}, {api.IEnum, "S", 1}, {api.IFn, "f", 3}, {api.IEnum, "E", 5},
		{api.IFn, "S", -1}, {api.IStruct, "E", -1}, {api.IEnum, "f", -1}, {api.IStruct, "f", -1}, {api.IFn, "g", -1},
		{api.IFn, "", -1}, {0, "S", -1}, {0, "", -1}, {4, "S", -1}, {255, "f", -1}, {api.IStruct, "s", -1}, {api.IFn, "f ", -1},
	} {
		x, ok := Find(p, c.kind, c.name)
		var want api.Item
		if c.want >= 0 {
			want = p.Items[c.want]
		}
		if ok != (c.want >= 0) || !reflect.DeepEqual(x, want) {
			t.Errorf("%d %q: %v, %t", c.kind, c.name, x, ok)
		}
	}
	if x, ok := Find(api.Program{}, api.IFn, "main"); ok || !reflect.DeepEqual(x, api.Item{}) {
		t.Error(x, ok)
	}
}

// P6.2: of a program that isn't whole too.
func TestFindNotWhole(t *testing.T) {
	odd := api.Item{Kind: 9, Name: "odd", Body: []api.Stmt{{}}, At: -3}
	p := api.Program{Items: append(make([]api.Item, 40), odd)}
	if x, ok := Find(p, 9, "odd"); !ok || !reflect.DeepEqual(x, odd) {
		t.Error(x, ok)
	}
	if x, ok := Find(p, 0, ""); !ok || !reflect.DeepEqual(x, api.Item{}) {
		t.Error(x, ok)
	}
}

// P0.4: what is found is in memory of its own.
func TestFindApart(t *testing.T) {
	s := "fn f(a: Box<int>) -> int { let S { b } = f(a); match b: E { A(c) => { c.d.*; } } 0 }"
	p, before := read(t, s), read(t, s)
	name := strings.Clone("f")
	p.Items[0].Name = strings.Clone("f")
	x, _ := Find(p, api.IFn, name)
	if at := unsafe.StringData(x.Name); at == unsafe.StringData(name) || at == unsafe.StringData(p.Items[0].Name) {
		t.Error("its name is in the memory of another")
	}
	x.Fields[0].Name, x.Fields[0].Type.Args[0].Kind = "changed", 0
	x.Body[0].Names[0], x.Body[0].Exprs[0].Args[0].Place.Name = "changed", "changed"
	x.Body[1].Arms[0].Body[0].Exprs[0].Place.Path[0] = "changed"
	x.Body[1].Arms[0].Name = "changed"
	x.Return.Int = 7
	if !reflect.DeepEqual(p, before) {
		t.Errorf("%v", p)
	}
	again, _ := Find(p, api.IFn, name)
	if !reflect.DeepEqual(again, before.Items[0]) {
		t.Errorf("%v", again)
	}
}

// P0.4: the program stays as it is, and so does the room behind its lists; what is answered is not kept.
func TestCheckApart(t *testing.T) {
	s := in("let S { a, b } = x; scope { spawn (c = a, d = e) { c; } } match a: E { A => { } B(z) => { z; } } a = two(1);")
	p, before := read(t, s), read(t, s)
	room := append(p.Items, api.Item{Name: "behind"})
	p.Items = room[:len(p.Items)]
	main := &p.Items[len(p.Items)-1]
	behind := append(slices.Clone(main.Body), api.Stmt{Op: 77})
	main.Body = behind[:len(main.Body)]
	first := Check(p)
	for i := range first {
		first[i].At = -1
	}
	_ = append(first, api.Fault{Err: 99})
	second := Check(p)
	if len(second) == 0 || len(second) != len(first) || second[0].At < 0 || !slices.Equal(second, Check(p)) {
		t.Error(first, second)
	}
	if !reflect.DeepEqual(p, before) || room[len(p.Items)].Name != "behind" || behind[len(main.Body)].Op != 77 {
		t.Errorf("changed: %v", p)
	}
}

// P0.4: lists that are nil and empty ones are the same.
func TestEmptyLists(t *testing.T) {
	p := read(t, in("{ } chan<int>(1) as s, r; scope { spawn () { } } none(); E.A; O { }; let O { } = 1; let e = 1; match e: N { }"))
	before := Check(p)
	emptied(reflect.ValueOf(&p).Elem())
	if after := Check(p); !slices.Equal(before, after) || len(after) != 0 {
		t.Error(before, after)
	}
	if got := Check(api.Program{Items: []api.Item{}}); !slices.Equal(got, []api.Fault{{Err: api.ErrMain}}) {
		t.Error(got)
	}
}

// emptied makes each list that is nil one that is empty.
func emptied(v reflect.Value) {
	switch v.Kind() {
	case reflect.Struct:
		for i := range v.NumField() {
			emptied(v.Field(i))
		}
	case reflect.Slice:
		if v.IsNil() {
			v.Set(reflect.MakeSlice(v.Type(), 0, 3))
		}
		for i := range v.Len() {
			emptied(v.Index(i))
		}
	}
}
