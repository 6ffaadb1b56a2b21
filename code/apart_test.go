package code

import (
	"reflect"
	"slices"
	"strings"
	"testing"
	"unsafe"

	"weftway/api"
)

// full is a unit of which each list has something in the room behind it, and the same lists once more, made anew.
func full() (u, same api.Unit) {
	made := func() api.Unit {
		u := unit()
		u.Funcs[0].Code = right()
		roomy(reflect.ValueOf(&u).Elem())
		return u
	}
	return made(), made()
}

// roomy puts room behind each list, with the list's own first thing in it.
func roomy(v reflect.Value) {
	switch v.Kind() {
	case reflect.Struct:
		for i := range v.NumField() {
			roomy(v.Field(i))
		}
	case reflect.Slice:
		for i := range v.Len() {
			roomy(v.Index(i))
		}
		if v.Len() > 0 {
			longer := reflect.MakeSlice(v.Type(), v.Len()+2, v.Len()+2)
			reflect.Copy(longer, v)
			longer.Index(v.Len() + 1).Set(v.Index(0))
			v.Set(longer.Slice(0, v.Len()))
		}
	}
}

// whole is what a list has, the room behind it too.
func whole(v reflect.Value) reflect.Value {
	switch v.Kind() {
	case reflect.Struct:
		out := reflect.New(v.Type()).Elem()
		for i := range v.NumField() {
			out.Field(i).Set(whole(v.Field(i)))
		}
		return out
	case reflect.Slice:
		v = v.Slice(0, v.Cap())
		out := reflect.MakeSlice(v.Type(), v.Len(), v.Len())
		for i := range v.Len() {
			out.Index(i).Set(whole(v.Index(i)))
		}
		return out
	}
	return v
}

func sameWhole(a, b any) bool {
	return reflect.DeepEqual(whole(reflect.ValueOf(a)).Interface(), whole(reflect.ValueOf(b)).Interface())
}

// P0.4: nothing that is handed in is changed, the room behind it neither; asked again all is the same.
func TestHandedIn(t *testing.T) {
	u, same := full()
	if !sameWhole(u, same) {
		t.Fatal("made unlike")
	}
	for range 2 {
		if e := May(u); e != api.OK {
			t.Error(e)
		}
		for i, x := range u.Funcs[0].Code {
			want := right()[i]
			if e := Instr(u, 0, x); e != api.OK || Text(x) != Text(want) || !slices.Equal(Jumps(x), Jumps(want)) {
				t.Error(Text(x), e, Jumps(x))
			}
		}
		if n, ok := Field(u, "S", "b"); n != 1 || !ok {
			t.Error(n, ok)
		}
		if !sameWhole(u, same) {
			t.Fatal("changed")
		}
	}
	u.Funcs[1].Code[5].Op = 99
	u.Funcs[0].Code[0].A = 3
	same.Funcs[1].Code[5].Op = 99
	same.Funcs[0].Code[0].A = 3
	if May(u) != api.ErrCode || Instr(u, 0, u.Funcs[0].Code[0]) != api.ErrCode || !sameWhole(u, same) {
		t.Error("changed where it may not be")
	}
}

// P0.4: the jumps are told in memory of their own, the room behind them too.
func TestJumpsApart(t *testing.T) {
	slots := []int{4, 7, 1, 2, 99}
	for n := range 5 {
		x := api.Instr{Op: api.OSwitch, Slots: slots[:n], Name: "E"}
		first, second := Jumps(x), Jumps(x)
		first = append(first[:cap(first)], 55)
		for i := range first {
			first[i] = 77
		}
		_ = append(second, 66)
		if !slices.Equal(slots, []int{4, 7, 1, 2, 99}) || !slices.Equal(second, slots[:n]) || !slices.Equal(Jumps(x), slots[:n]) {
			t.Error(n, slots, second)
		}
	}
	x := api.Instr{Op: api.OSwitch, Slots: []int{4, 7}}
	l := Jumps(x)
	x.Slots[0] = 5
	if !slices.Equal(l, []int{4, 7}) {
		t.Error(l)
	}
	jump := Jumps(api.Instr{Op: api.OJump, A: 3})
	jump[0] = 9
	if !slices.Equal(Jumps(api.Instr{Op: api.OJump, A: 3}), []int{3}) {
		t.Error("kept")
	}
}

// P0.4: a text is in memory of its own.
func TestTextApart(t *testing.T) {
	name, step := strings.Clone("Name"), strings.Clone("step")
	for _, x := range []api.Instr{{Op: api.OSwitch, Name: name}, {Op: api.OStruct, Name: name}, {Op: api.OUse, Path: []string{step}}} {
		s := Text(x)
		at, end := uintptr(unsafe.Pointer(unsafe.StringData(s))), uintptr(len(s))
		for _, from := range []string{name, step} {
			if p := uintptr(unsafe.Pointer(unsafe.StringData(from))); at <= p && p < at+end {
				t.Error(s, "is in the memory of what was handed in")
			}
		}
	}
}

// P0.4: lists that are nil and empty ones are the same.
func TestEmptyLists(t *testing.T) {
	for i, x := range right() {
		empty := x
		v := reflect.ValueOf(&empty).Elem()
		for f := range v.NumField() {
			if v.Field(f).Kind() == reflect.Slice && v.Field(f).Len() == 0 {
				v.Field(f).Set(reflect.MakeSlice(v.Field(f).Type(), 0, 3))
			}
		}
		if Instr(unit(), 0, x) != api.OK || Instr(unit(), 0, empty) != api.OK || Text(x) != Text(empty) || !slices.Equal(Jumps(x), Jumps(empty)) {
			t.Error(i, Text(x), Text(empty))
		}
	}
	u := api.Unit{Funcs: []api.Func{{Name: "main", Code: []api.Instr{}}}, Types: []api.Item{{Kind: api.IStruct, Name: "S", Fields: []api.Field{}}}}
	if e := May(u); e != api.OK {
		t.Error(e)
	}
}

// P0.1: nothing at all is answered, too.
func TestNothing(t *testing.T) {
	if May(api.Unit{}) != api.ErrCode || Instr(api.Unit{}, 0, api.Instr{}) != api.ErrCode || Text(api.Instr{}) != "?" || len(Jumps(api.Instr{})) != 0 {
		t.Error("of nothing")
	}
	if n, ok := Field(api.Unit{}, "", ""); n != 0 || ok {
		t.Error(n, ok)
	}
}
