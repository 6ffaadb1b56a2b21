package autos

import (
	"slices"
	"strconv"
	"testing"

	"weftway/api"
	"weftway/tree"
)

// P9.1: no of a type that isn't whole, whatever is in it.
func TestTypeNotWhole(t *testing.T) {
	p := read(t, "struct S { a: int }")
	p.Items = append(p.Items, api.Item{Kind: api.IStruct, Name: ""})
	whole := api.Type{Kind: api.TInt}
	odd := []api.Type{
		{}, {Kind: 77}, {Kind: 77, Args: []api.Type{whole}}, {Name: "S"}, named(""), named("let"), named("s"), {Kind: api.TNamed, Name: "S", Args: []api.Type{whole}},
		within(api.TBox, api.Type{}), within(api.TBox, within(api.TArc)), within(api.TMut, named("")), within(api.TMutex, within(api.TRef, named("let"))),
	}
	for _, kind := range around() {
		odd = append(odd, within(kind), within(kind, whole, whole), api.Type{Kind: kind, Name: "S", Args: []api.Type{whole}})
	}
	for _, kind := range leaves() {
		odd = append(odd, within(kind, whole), api.Type{Kind: kind, Name: "S"})
	}
	for i, x := range odd {
		if tree.WholeType(x) || told(p, x) != "no no" || told(api.Program{}, x) != "no no" {
			t.Error(i, x)
		}
	}
}

// rowOf is a type that is so deep, all of that kind but the innermost.
func rowOf(kind uint8, deep int, innermost api.Type) api.Type {
	for range deep - 1 {
		innermost = within(kind, innermost)
	}
	return innermost
}

// P9.1: a type of 40 levels is whole, one of 41 isn't; and a row of Arcs is no work.
func TestDeep(t *testing.T) {
	p := read(t, "struct One { a: Cell<int> } struct Deep { a: "+deepText+" }")
	for kind, want := range map[uint8][2]string{
		api.TBox: {"yes yes", "yes no"}, api.TCell: {"yes no", "yes no"}, api.TRc: {"no no", "no no"}, api.TArc: {"yes yes", "no no"}, api.TMutex: {"yes yes", "yes yes"},
		api.TSender: {"yes yes", "yes yes"}, api.TReceiver: {"yes yes", "yes yes"}, api.TRef: {"yes yes", "no no"}, api.TMut: {"yes yes", "yes no"},
	} {
		for i, innermost := range []api.Type{{Kind: api.TInt}, named("One")} {
			if got := told(p, rowOf(kind, api.MaxDeep, innermost)); got != want[i] {
				t.Errorf("%d of %d: %s", kind, i, got)
			}
			if got := told(p, rowOf(kind, api.MaxDeep+1, innermost)); got != "no no" {
				t.Errorf("%d of %d, too deep: %s", kind, i, got)
			}
		}
	}
	rows(t, p, "Deep; Arc<Deep>: yes yes")
}

const deepText = "Arc<Arc<Arc<Arc<Arc<Arc<Arc<Arc<Arc<Arc<Arc<Arc<Arc<Arc<Arc<Arc<Arc<Arc<Arc<Arc<Arc<Arc<Arc<Arc<Arc<Arc<Arc<Arc<Deep>>>>>>>>>>>>>>>>>>>>>>>>>>>>"

// fieldsOf is a program with a struct S of these types.
func fieldsOf(types ...api.Type) api.Program {
	x := api.Item{Kind: api.IStruct, Name: "S"}
	for _, t := range types {
		x.Fields = append(x.Fields, api.Field{Name: "a", Type: t})
	}
	return api.Program{Items: []api.Item{x}}
}

// P9.1: a field of a program that isn't whole may have whatever there is: where there is no Arg nothing forbids it, of several each is T.
func TestFieldsNotWhole(t *testing.T) {
	whole := api.Type{Kind: api.TInt}
	one, none := within(api.TCell, whole), within(api.TRc, whole)
	for kind, want := range map[uint8][3]string{
		api.TInt: {"yes yes", "yes no", "no no"}, api.TBool: {"yes yes", "yes no", "no no"}, api.TUnit: {"yes yes", "yes no", "no no"}, api.TAtomic: {"yes yes", "yes no", "no no"},
		api.TBox: {"yes yes", "yes no", "no no"}, api.TMut: {"yes yes", "yes no", "no no"}, api.TCell: {"yes no", "yes no", "no no"}, api.TRc: {"no no", "no no", "no no"},
		api.TArc: {"yes yes", "no no", "no no"}, api.TRef: {"yes yes", "no no", "no no"},
		api.TMutex: {"yes yes", "yes yes", "no no"}, api.TSender: {"yes yes", "yes yes", "no no"}, api.TReceiver: {"yes yes", "yes yes", "no no"},
	} {
		for i, types := range [][]api.Type{
			{within(kind), {Kind: kind, Args: []api.Type{}}, within(kind, whole, whole), within(kind, api.Type{}), within(kind, whole, api.Type{}, within(api.TArc))},
			{within(kind, one), within(kind, one, whole), within(kind, whole, one), within(kind, whole, one, whole)},
			{within(kind, none), within(kind, none, whole), within(kind, whole, none), within(kind, whole, whole, one, none), within(kind, within(api.TRc))},
		} {
			for k, x := range types {
				if got := told(fieldsOf(x), named("S")); got != want[i] {
					t.Errorf("kind %d, row %d, %d: %s, want %s", kind, i, k, got, want[i])
				}
				if got := told(fieldsOf(whole, within(api.TMut, x), whole), named("S")); got != want[i] {
					t.Errorf("behind a &mut: kind %d, row %d, %d: %s, want %s", kind, i, k, got, want[i])
				}
			}
		}
	}
}

// P9.1: what has no rule asks for nothing, whatever it has: no kind, a name's Args, a name that isn't there, and the names of other kinds.
func TestNoRule(t *testing.T) {
	none := within(api.TRc, api.Type{Kind: api.TInt})
	for i, x := range []api.Type{
		{}, {Kind: 77}, within(0, none), within(77, none), within(255, none, within(api.TArc, none)), {Name: "R"}, named(""), named("let"), named("r"), named("Gone"),
		{Kind: api.TNamed, Name: "Gone", Args: []api.Type{none}}, {Kind: api.TNamed, Name: "S", Args: []api.Type{none}}, {Kind: api.TInt, Name: "R"}, {Kind: api.TArc, Name: "R"}, {Kind: 77, Name: "R"},
	} {
		p := fieldsOf(x)
		p.Items = append(p.Items, api.Item{Kind: api.IStruct, Name: "R", Fields: []api.Field{{Name: "a", Type: none}}})
		if got := told(p, named("S")); got != "yes yes" {
			t.Errorf("%d: %s", i, got)
		}
		if got := told(fieldsOf(x, none), named("S")); got != "no no" {
			t.Errorf("%d, and an Rc: %s", i, got)
		}
	}
	// A name that is none in a text, but an item's here, is looked for as any other one.
	for _, name := range []string{"", "let", "s"} {
		p := fieldsOf(named(name))
		p.Items = append(p.Items, api.Item{Kind: 77, Name: name}, api.Item{Kind: api.IEnum, Name: name, Fields: []api.Field{{Name: "A", Type: none}}})
		if got := told(p, named("S")); got != "no no" {
			t.Errorf("%q: %s", name, got)
		}
	}
}

// P9.1, P0.1: types that are far deeper than what is whole, in a field.
func TestFarTooDeep(t *testing.T) {
	for _, kind := range []uint8{api.TArc, api.TBox, api.TRef, api.TInt} {
		for innermost, want := range map[uint8]string{api.TUnit: "yes yes", api.TRc: "no no"} {
			if got := told(fieldsOf(rowOf(kind, 60000, within(innermost))), named("S")); got != want {
				t.Errorf("%d around %d: %s", kind, innermost, got)
			}
		}
	}
}

// P9.1, P0.1: rows of names that are longer than what is whole; the last one leads back to the first.
func TestManyNames(t *testing.T) {
	const many = 3000
	var p api.Program
	for i := range many {
		next := within(api.TArc, named("S"+strconv.Itoa((i+1)%many)))
		p.Items = append(p.Items, api.Item{Kind: api.IStruct, Name: "S" + strconv.Itoa(i), Fields: []api.Field{{Name: "a", Type: next}, {Name: "b", Type: next}}})
	}
	if got := told(p, named("S7")); got != "yes yes" {
		t.Error(got)
	}
	p.Items[6].Fields = append(p.Items[6].Fields, api.Field{Name: "c", Type: within(api.TCell)})
	if got := told(p, named("S7")); got != "no no" {
		t.Error(got)
	}
	slices.Reverse(p.Items)
	if got := told(p, within(api.TMut, named("S7"))); got != "no no" {
		t.Error(got)
	}
}
