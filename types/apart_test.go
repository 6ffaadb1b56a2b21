package types

import (
	"reflect"
	"slices"
	"strings"
	"testing"
	"unsafe"

	"weftway/api"
)

const apartText = "struct S { a: Box<Rc<T>>, b: T } struct T { }"

// P0.4: what is answered is in memory of its own, be it a piece of the type that was handed in, that type itself, or a field's.
func TestAnswerApart(t *testing.T) {
	for path, from := range map[string]string{"": "Box<Rc<T>>", "*": "Box<Box<Rc<T>>>", "a": "S", "* a": "Box<S>"} {
		p, before := read(t, apartText), read(t, apartText)
		x, same := typed(t, from), typed(t, from)
		steps := strings.Fields(path)
		for range 2 {
			to, _, ok := Walk(p, x, steps)
			if !ok || !Same(to, typed(t, "Box<Rc<T>>")) {
				t.Fatalf("%s by %q", from, path)
			}
			to.Args[0].Args[0].Name, to.Args[0].Kind = "changed", 0
			_ = append(to.Args, api.Type{Kind: 77})
			if len(steps) == 1 {
				to, _ = Step(p, x, steps[0])
				to.Args[0].Args[0].Kind, to.Args[0].Args = 0, nil
			}
			if !reflect.DeepEqual(p, before) || !reflect.DeepEqual(x, same) || strings.Join(steps, " ") != path {
				t.Fatalf("%s by %q: changed", from, path)
			}
		}
	}
}

// P0.4: a text is one's own too.
func TestNameApart(t *testing.T) {
	p := read(t, apartText)
	p.Items[0].Fields[1].Type.Name = strings.Clone("T")
	own := named(strings.Clone("T"))
	field, _ := Step(p, named("S"), "b")
	behind, _ := Step(p, within(api.TBox, own), "*")
	itself, _, _ := Walk(p, own, nil)
	for i, to := range []api.Type{field, behind, itself} {
		for _, s := range []string{p.Items[0].Fields[1].Type.Name, own.Name} {
			if to.Name != "T" || unsafe.StringData(to.Name) == unsafe.StringData(s) {
				t.Error(i, "is in the memory of what was handed in")
			}
		}
	}
}

// P0.4: the room behind lists that are handed in stays as it is.
func TestRoomBehind(t *testing.T) {
	p := read(t, apartText)
	items := append(slices.Clone(p.Items), api.Item{Name: "behind"})
	p.Items = items[:len(items)-1]
	fields := append(slices.Clone(p.Items[0].Fields), api.Field{Name: "behind"})
	p.Items[0].Fields = fields[:len(fields)-1]
	args := []api.Type{named("S"), named("Behind")}
	path := []string{"*", "a", "*", "*", "behind"}
	from := within(api.TMut, args[:1]...)
	for range 2 {
		if got := walked(Walk(p, from, path[:4])); got != "T, may not" {
			t.Error(got)
		}
		if got := walked(Walk(p, from, path[:2])); got != "Box < Rc < T > >, may be written" {
			t.Error(got)
		}
		if Owned(from) || Copied(from) || !Same(from, from) {
			t.Error("of &mut S")
		}
	}
	if items[2].Name != "behind" || fields[2].Name != "behind" || args[1].Name != "Behind" || !slices.Equal(path, []string{"*", "a", "*", "*", "behind"}) {
		t.Error(items, fields, args, path)
	}
}

// P0.4: lists that are nil and empty ones are the same.
func TestEmptyLists(t *testing.T) {
	p := read(t, apartText)
	for i := range p.Items {
		if len(p.Items[i].Fields) == 0 {
			p.Items[i].Fields = []api.Field{}
		}
	}
	none := []api.Type{}
	from := api.Type{Kind: api.TNamed, Name: "S", Args: none}
	if got := walked(Walk(p, from, []string{})); got != "S, may be written" {
		t.Error(got)
	}
	if got := told(Step(p, from, "b")); got != "T" {
		t.Error(got)
	}
	if got := told(Step(p, api.Type{Kind: api.TNamed, Name: "T", Args: none}, "b")); got != "-" {
		t.Error(got)
	}
	if got := told(Step(p, api.Type{Kind: api.TBox, Args: none}, "*")); got != "-" {
		t.Error(got)
	}
	if got := told(Step(api.Program{Items: []api.Item{}}, from, "b")); got != "-" {
		t.Error(got)
	}
	if !Owned(from) || !Copied(api.Type{Kind: api.TInt, Args: none}) || !Owned(api.Type{Kind: api.TInt, Args: none}) {
		t.Error("with empty lists")
	}
}
