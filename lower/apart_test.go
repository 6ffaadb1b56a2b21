package lower

import (
	"reflect"
	"testing"
	"unsafe"

	"weftway/api"
	"weftway/tree"
)

// all is a text that has everything in it that a unit has lists or names of.
const all = "struct S { a: Box<Rc<int>>, b: E } enum E { A, B(Box<S>) } fn give(a: S) -> Box<S> { box(a) } fn f(s: S, e: E, r: &Box<int>) -> int { let x = r.*; let S { h, i } = s; h.a.* = s.a; " +
	"scope { spawn (a = r.*.*, b = &s.a, c = S { a = h, b = E.B(s.b) }) { let z = a.*.a; scope { spawn (q = &mut z.*) { q.*; } } } } lock h.a.* as g { g.* = 1; } chan<Box<S>>(1) as j, k; send(j.a, clone(k.*)); match e: E { B(l) => { l; } A => { set(i.a, 1); } } give(s) } fn main() -> int { 0 }"

// eachPart hands on what a struct or a list has.
func eachPart(v reflect.Value, each func(reflect.Value)) {
	switch v.Kind() {
	case reflect.Struct:
		for i := range v.NumField() {
			each(v.Field(i))
		}
	case reflect.Slice:
		for i := range v.Len() {
			each(v.Index(i))
		}
	}
}

// roomy puts room behind each list, an empty one too, with zero values in it.
func roomy(v reflect.Value) {
	eachPart(v, roomy)
	if v.Kind() == reflect.Slice {
		longer := reflect.MakeSlice(v.Type(), v.Len()+3, v.Len()+3)
		reflect.Copy(longer, v)
		v.Set(longer.Slice(0, v.Len()))
	}
}

func untouched(t *testing.T, v reflect.Value) {
	t.Helper()
	if v.Kind() == reflect.Slice {
		for i := v.Len(); i < v.Cap(); i++ {
			if !v.Slice(0, v.Cap()).Index(i).IsZero() {
				t.Errorf("behind %v", v)
			}
		}
	}
	eachPart(v, func(x reflect.Value) { untouched(t, x) })
}

// memory tells of all lists with room, and names, where they are, and how often one is there.
func memory(v reflect.Value, at map[unsafe.Pointer]int) {
	switch {
	case v.Kind() == reflect.Slice && v.Cap() > 0:
		at[v.UnsafePointer()]++
	case v.Kind() == reflect.String && v.Len() > 0:
		at[unsafe.Pointer(unsafe.StringData(v.String()))]++
	}
	eachPart(v, func(x reflect.Value) { memory(x, at) })
}

// P0.4: nothing that is handed in is changed, the room behind it neither; lists that are nil and empty ones are the same.
func TestHandedIn(t *testing.T) {
	want := lowered(t, all)
	p := read(t, all)
	roomy(reflect.ValueOf(&p).Elem())
	before := tree.Copy(p)
	for range 2 {
		u, e := Program(p)
		if e != api.OK || len(u.Funcs) != 5 || len(u.Types) != 2 {
			t.Fatal(e, len(u.Funcs), len(u.Types))
		}
		for i := range u.Types {
			for k := range u.Types[i].Fields {
				if !reflect.DeepEqual(tidy(u.Types[i].Fields[k].Type), tidy(want.Types[i].Fields[k].Type)) {
					t.Error(u.Types[i].Fields[k], want.Types[i].Fields[k])
				}
			}
		}
		if u.Main != want.Main || !reflect.DeepEqual(u.Funcs, want.Funcs) {
			t.Error(u.Funcs)
		}
	}
	if !reflect.DeepEqual(p, before) {
		t.Error("changed")
	}
	untouched(t, reflect.ValueOf(p))
}

// tidy is a type whose empty lists are nil.
func tidy(t api.Type) api.Type {
	if len(t.Args) == 0 {
		t.Args = nil
		return t
	}
	t.Args = []api.Type{tidy(t.Args[0])}
	return t
}

// P0.4: what is answered is in memory of its own; no two lists of it share any.
func TestAnswerApart(t *testing.T) {
	p := read(t, all)
	first, _ := Program(p)
	second, _ := Program(p)
	own, other := map[unsafe.Pointer]int{}, map[unsafe.Pointer]int{}
	memory(reflect.ValueOf(first), own)
	memory(reflect.ValueOf(second), other)
	memory(reflect.ValueOf(p), other)
	shared := 0
	for at, n := range own {
		if other[at] > 0 {
			t.Error("shared with what was handed in, or answered")
		}
		if n > 1 {
			shared++
		}
	}
	if shared > 0 || len(own) < 50 {
		t.Error(shared, len(own))
	}
}

// P0.4: what is done to an answer, and to the room behind it, changes neither another one nor what was handed in.
func TestScratched(t *testing.T) {
	p := read(t, all)
	before := tree.Copy(p)
	want := lowered(t, all)
	first, _ := Program(p)
	second, _ := Program(p)
	scratch(reflect.ValueOf(&first).Elem())
	third, _ := Program(p)
	if !reflect.DeepEqual(p, before) || !reflect.DeepEqual(second, want) || !reflect.DeepEqual(third, want) {
		t.Error("changed with the answer")
	}
}

// scratch changes all that there is, the room behind it too.
func scratch(v reflect.Value) {
	switch v.Kind() {
	case reflect.Slice:
		v = v.Slice(0, v.Cap())
		for i := range v.Len() {
			scratch(v.Index(i))
		}
	case reflect.Struct:
		for i := range v.NumField() {
			scratch(v.Field(i))
		}
	case reflect.String:
		v.SetString("scratched")
	case reflect.Uint8:
		v.SetUint(99)
	default:
		v.SetInt(-5)
	}
}

// P0.2: a field that an instruction doesn't have is zero.
func TestNoMoreFields(t *testing.T) {
	u := lowered(t, all)
	for _, f := range u.Funcs {
		for _, x := range f.Code {
			if x.C != 0 || x.Names != nil || x.Path != nil && len(x.Path) == 0 || x.Slots != nil && x.Op != api.OSwitch {
				t.Errorf("%+v", x)
			}
		}
	}
}
