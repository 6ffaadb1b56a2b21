package autos

import (
	"reflect"
	"slices"
	"testing"

	"weftway/api"
)

const apartText = "struct S { a: Arc<T>, b: Mutex<S>, c: Box<E> } struct T { a: Cell<int> } enum E { A, B(Sender<S>) }"

// P0.4: what is handed in stays as it is, and isn't kept: what is asked later is asked of what is there then.
func TestArgumentsApart(t *testing.T) {
	p, before := read(t, apartText), read(t, apartText)
	x, same := typed(t, "&mut Box<S>"), typed(t, "&mut Box<S>")
	for range 2 {
		if told(p, x) != "no no" || !reflect.DeepEqual(p, before) || !reflect.DeepEqual(x, same) {
			t.Fatal(told(p, x), p, x)
		}
	}
	p.Items[1].Fields[0].Type.Kind = api.TMutex
	if got := told(p, x); got != "yes yes" {
		t.Error(got)
	}
	x.Args[0].Kind = api.TRc
	if got := told(p, x); got != "no no" {
		t.Error(got)
	}
}

// P0.4: the room behind lists that are handed in stays as it is, and isn't looked at.
func TestRoomBehind(t *testing.T) {
	p := read(t, apartText)
	p.Items[1].Fields[0].Type.Kind = api.TMutex
	none := within(api.TRc, api.Type{Kind: api.TInt})
	items := append(slices.Clone(p.Items), api.Item{Kind: api.IStruct, Name: "Behind", Fields: []api.Field{{Name: "a", Type: none}}})
	p.Items = items[:len(items)-1]
	fields := append(slices.Clone(p.Items[0].Fields), api.Field{Name: "behind", Type: none})
	p.Items[0].Fields = fields[:len(fields)-1]
	args := []api.Type{named("S"), none}
	for range 2 {
		if got := told(p, within(api.TBox, args[:1]...)); got != "yes yes" {
			t.Error(got)
		}
		if got := told(p, named("Behind")); got != "yes yes" {
			t.Error(got)
		}
	}
	if items[3].Name != "Behind" || fields[3].Name != "behind" || args[1].Kind != api.TRc {
		t.Error(items, fields, args)
	}
}

// P0.4: lists that are nil and empty ones are the same.
func TestEmptyLists(t *testing.T) {
	for _, args := range [][]api.Type{nil, {}} {
		for _, fields := range [][]api.Field{nil, {}} {
			for _, items := range [][]api.Item{nil, {}, {{Kind: api.IStruct, Name: "S", Fields: fields}}, {{Kind: api.IEnum, Name: "S", Fields: fields}}} {
				for _, x := range []api.Type{{Kind: api.TNamed, Name: "S", Args: args}, {Kind: api.TInt, Args: args}, within(api.TRef, api.Type{Kind: api.TUnit, Args: args})} {
					if got := told(api.Program{Items: items}, x); got != "yes yes" {
						t.Errorf("%+v of %+v: %s", x, items, got)
					}
				}
			}
		}
	}
}
