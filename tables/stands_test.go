package tables

import (
	"testing"

	"weftway/api"
	"weftway/show"
	"weftway/tree"
)

// eachType hands on all types up to so deep, over one name.
func eachType(deep int, each func(t api.Type)) {
	for _, kind := range []uint8{api.TInt, api.TBool, api.TUnit, api.TAtomic} {
		each(api.Type{Kind: kind})
	}
	each(api.Type{Kind: api.TNamed, Name: "S"})
	if deep > 1 {
		eachType(deep-1, func(t api.Type) {
			for _, kind := range around() {
				each(within(kind, t))
			}
		})
	}
}

func within(kind uint8, t api.Type) api.Type { return api.Type{Kind: kind, Args: []api.Type{t}} }

// rowOf is a type that is so deep, all of that kind but the innermost.
func rowOf(kind uint8, deep int, t api.Type) api.Type {
	for range deep - 1 {
		t = within(kind, t)
	}
	return t
}

// P7.2: each type by its text; P7.3: what is within, what is around.
func TestStands(t *testing.T) {
	total, standing := 0, 0
	eachType(5, func(x api.Type) {
		total++
		want, kept := sortOf(show.Type(x))
		if got := Stands(x); got != want {
			t.Fatalf("%s: %t", show.Type(x), got)
		}
		if !want {
			return
		}
		standing++
		for _, arg := range x.Args {
			if !Stands(arg) {
				t.Fatalf("%s may not stand, within %s", show.Type(arg), show.Type(x))
			}
		}
		if !Stands(within(api.TRef, x)) || !Stands(within(api.TMut, x)) {
			t.Fatalf("a reference to %s", show.Type(x))
		}
		if Stands(within(api.TBox, x)) != kept {
			t.Fatalf("a Box of %s", show.Type(x))
		}
	})
	if total < 30000 || standing < 5000 || standing == total {
		t.Error(total, standing)
	}
}

// P7.2: as each text of a type says, of a field or a parameter.
func TestStandsOfTexts(t *testing.T) {
	for s, sort := range types() {
		p := read(t, "fn f(a: "+s+") -> int { 0 }")
		if got := Stands(p.Items[0].Fields[0].Type); got != (sort != "no") {
			t.Errorf("%s: %t", s, got)
		}
	}
}

// P7.2: types as deep as may be, and deeper ones.
func TestStandsDeep(t *testing.T) {
	number := api.Type{Kind: api.TInt}
	for _, kind := range []uint8{api.TBox, api.TArc, api.TRef, api.TMut} {
		for deep, want := range map[int]bool{1: true, api.MaxDeep: true, api.MaxDeep + 1: false, 60000: false} {
			if got := Stands(rowOf(kind, deep, number)); got != want {
				t.Errorf("kind %d, %d deep: %t", kind, deep, got)
			}
		}
	}
	// A reference at the very bottom, and one at the very top.
	if Stands(rowOf(api.TBox, api.MaxDeep-1, within(api.TRef, number))) || !Stands(within(api.TRef, rowOf(api.TBox, api.MaxDeep-1, number))) {
		t.Error("a reference far away")
	}
	if Stands(rowOf(api.TRef, api.MaxDeep-1, within(api.TCell, api.Type{Kind: api.TAtomic}))) {
		t.Error("a Cell far away")
	}
}

// P7.2: of one that isn't whole: no.
func TestStandsNotWhole(t *testing.T) {
	number := api.Type{Kind: api.TInt}
	itself := make([]api.Type, 1)
	itself[0] = api.Type{Kind: api.TRef, Args: itself}
	for _, x := range []api.Type{
		{}, {Kind: 99}, {Kind: api.TMut + 1}, {Kind: api.TInt, Name: "S"}, {Kind: api.TInt, Args: []api.Type{number}},
		{Kind: api.TNamed}, {Kind: api.TNamed, Name: "s"}, {Kind: api.TNamed, Name: "Box"}, {Kind: api.TNamed, Name: "S", Args: []api.Type{number}},
		{Kind: api.TBox}, {Kind: api.TCell}, {Kind: api.TRef}, {Kind: api.TMut}, {Kind: api.TRef, Args: []api.Type{{}}},
		{Kind: api.TBox, Args: []api.Type{number, number}}, {Kind: api.TRef, Args: []api.Type{number, number}}, {Kind: api.TCell, Name: "S", Args: []api.Type{number}},
		{Kind: api.TAtomic, Args: []api.Type{number}}, itself[0],
		within(api.TRef, within(api.TMut, api.Type{Kind: api.TNamed, Name: "a"})),
	} {
		if Stands(x) {
			t.Errorf("%d %q %d", x.Kind, x.Name, len(x.Args))
		}
	}
}

// P7.1: of a program that isn't whole ErrArg alone, at 0, whatever else is wrong with it.
func TestCheckNotWhole(t *testing.T) {
	wrong := read(t, "  struct S { a: S, b: &int } fn f() -> &int { chan<&int>(1) as s, r; 0 }")
	if got := Check(wrong); len(got) != 4 {
		t.Fatal(got)
	}
	field := api.Field{Name: "a", Type: api.Type{Kind: api.TInt}}
	for name, change := range map[string]func(p *api.Program){
		"a kind":             func(p *api.Program) { p.Items[0].Kind = 4 },
		"no item":            func(p *api.Program) { p.Items[0] = api.Item{} },
		"no type":            func(p *api.Program) { p.Items[0].Fields[0].Type = api.Type{} },
		"a Box of nothing":   func(p *api.Program) { p.Items[0].Fields[0].Type = api.Type{Kind: api.TBox} },
		"a result":           func(p *api.Program) { p.Items[1].Result = api.Type{} },
		"a channel's type":   func(p *api.Program) { p.Items[1].Body[0].Type = api.Type{} },
		"a channel's room":   func(p *api.Program) { p.Items[1].Body[0].Int = 9 },
		"a struct's result":  func(p *api.Program) { p.Items[0].Result = field.Type },
		"many fields":        func(p *api.Program) { p.Items[0].Fields = []api.Field{field, field, field, field, field, field, field} },
		"many items":         func(p *api.Program) { p.Items = append(p.Items, make([]api.Item, api.MaxItems-1)...) },
		"too deep":           func(p *api.Program) { p.Items[0].Fields[0].Type = rowOf(api.TBox, api.MaxDeep-1, field.Type) },
		"a last expression":  func(p *api.Program) { p.Items[1].Return = api.Expr{} },
		"one that is lent":   func(p *api.Program) { p.Items[1].Return = api.Expr{Op: api.EShare, Place: api.Place{Name: "a"}} },
		"a type's own name":  func(p *api.Program) { p.Items[0].Fields[0].Type.Name = "int" },
		"a name for a field": func(p *api.Program) { p.Items[0].Fields[0].Name = "A" },
	} {
		p := tree.Copy(wrong)
		change(&p)
		got := Check(p)
		if len(got) != 1 || got[0] != (api.Fault{Err: api.ErrArg}) {
			t.Errorf("%s: %v", name, got)
		}
	}
	// As deep as it may be.
	p := tree.Copy(wrong)
	p.Items[0].Fields[0].Type = rowOf(api.TBox, api.MaxDeep-2, field.Type)
	if got := Check(p); len(got) != 3 {
		t.Error(got)
	}
}
