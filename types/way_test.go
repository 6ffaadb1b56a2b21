package types

import (
	"slices"
	"strings"
	"testing"

	"weftway/api"
	"weftway/tree"
)

// several has of each name that counts a first one, and one behind it.
const several = "fn s(a: bool) -> int { 0 } " +
	"struct S { a: int, b: Box<T>, a: bool, c: &int, d: U } " +
	"enum S { A, B(int) } struct S { e: int, b: unit } " +
	"enum T { A, B(int), C } struct T { a: int } " +
	"struct U { a: S, b: Missing, u: &mut U } struct Empty { } enum Nothing { }"

// P8.2: each kind a type may have, by each sort of step.
func TestStep(t *testing.T) {
	p := read(t, several)
	// What no text could name so: a function of a struct's name is no struct.
	p.Items[0].Name = "S"
	for row, want := range map[string]string{
		"Box<int> by *": "int", "Rc<S> by *": "S", "Arc<Mutex<S>> by *": "Mutex < S >", "& &int by *": "& int", "&mut Box<&mut int> by *": "Box < & mut int >",
		"int by *": "-", "bool by *": "-", "unit by *": "-", "Atomic by *": "-", "Cell<int> by *": "-", "Mutex<Box<int>> by *": "-",
		"Sender<Box<int>> by *": "-", "Receiver<Box<int>> by *": "-", "S by *": "-", "Missing by *": "-",

		"S by a": "int", "S by b": "Box < T >", "S by c": "& int", "S by d": "U", "S by e": "-", "S by f": "-",
		"S by A": "-", "S by B": "-", "S by ": "-", "S by S": "-", "S by a ": "-", "S by aa": "-", "S by let": "-",
		"U by a": "S", "U by b": "Missing", "U by u": "& mut U", "U by c": "-",
		"T by A": "-", "T by B": "-", "T by C": "-", "T by a": "-", "T by *": "-",
		"Empty by a": "-", "Nothing by a": "-", "Missing by a": "-",

		"Box<S> by a": "-", "Rc<S> by a": "-", "Arc<S> by a": "-", "&S by a": "-", "&mut S by a": "-", "Cell<S> by a": "-",
		"Mutex<S> by a": "-", "Sender<S> by a": "-", "Receiver<S> by a": "-", "int by a": "-", "Atomic by a": "-",
		"Box<S> by ": "-", "Box<S> by **": "-", "Box<S> by S": "-", "Box<S> by Box": "-", "Box<S> by &": "-",
	} {
		from, step, _ := strings.Cut(row, " by ")
		if got := told(Step(p, typed(t, from), step)); got != want {
			t.Errorf("%s: %s, want %s", row, got, want)
		}
	}
	for _, s := range []string{"S", "T"} {
		if got := told(Step(api.Program{}, named(s), "a")); got != "-" {
			t.Errorf("%s in no program: %s", s, got)
		}
	}
	if got := told(Step(api.Program{}, typed(t, "Box<S>"), "*")); got != "S" {
		t.Errorf("through a Box, in no program: %s", got)
	}
}

// P8.2, P8.3: no of a type that isn't whole, whatever the step.
func TestTypeNotWhole(t *testing.T) {
	p := read(t, several)
	p.Items = append(p.Items, api.Item{Kind: api.IStruct, Name: "", Fields: []api.Field{{Name: "a", Type: named("S")}}})
	whole := api.Type{Kind: api.TInt}
	odd := []api.Type{
		{}, {Kind: 77, Args: []api.Type{whole}}, named(""), named("let"), named("s"), {Kind: api.TNamed, Name: "S", Args: []api.Type{whole}},
		within(api.TBox, api.Type{}), within(api.TBox, within(api.TRc)), within(api.TMut, named("")),
	}
	for _, kind := range around() {
		odd = append(odd, within(kind), within(kind, whole, whole), api.Type{Kind: kind, Name: "S", Args: []api.Type{whole}})
	}
	for _, kind := range leaves() {
		odd = append(odd, within(kind, whole), api.Type{Kind: kind, Name: "S"})
	}
	for i, x := range odd {
		for _, path := range [][]string{nil, {"*"}, {"a"}, {"*", "*"}, {"b", "*"}} {
			if got := walked(Walk(p, x, path)); got != "-" {
				t.Errorf("%d by %q: %s", i, path, got)
			}
			if len(path) == 1 {
				if got := told(Step(p, x, path[0])); got != "-" {
					t.Errorf("%d by %q: %s", i, path, got)
				}
			}
		}
	}
}

// rowOf is a type that is so deep, all of that kind but the innermost.
func rowOf(kind uint8, deep int) api.Type {
	t := api.Type{Kind: api.TInt}
	for range deep - 1 {
		t = within(kind, t)
	}
	return t
}

// P8.2, P8.3: a type of 40 levels is whole, one of 41 isn't.
func TestDeep(t *testing.T) {
	var p api.Program
	stars := slices.Repeat([]string{"*"}, 41)
	for _, kind := range []uint8{api.TBox, api.TRc, api.TArc, api.TRef, api.TMut} {
		most := rowOf(kind, api.MaxDeep)
		written := map[bool]string{true: ", may be written", false: ", may not"}[kind == api.TBox || kind == api.TMut]
		for path, want := range map[int]string{39: "int" + written, 40: "-", 41: "-"} {
			if got := walked(Walk(p, most, stars[:path])); got != want {
				t.Errorf("%d by %d: %s", kind, path, got)
			}
		}
		if to, ok := Step(p, most, "*"); !ok || !tree.SameType(to, rowOf(kind, api.MaxDeep-1)) {
			t.Error(kind)
		}
		more := rowOf(kind, api.MaxDeep+1)
		for _, path := range [][]string{nil, {"*"}, stars[:40]} {
			if got := walked(Walk(p, more, path)); got != "-" {
				t.Errorf("%d by %d: %s", kind, len(path), got)
			}
		}
	}
}

// P8.2, P8.3: what a step leads to isn't asked whether it is whole: a program's fields may have anything.
func TestFieldsNotWhole(t *testing.T) {
	whole := api.Type{Kind: api.TInt}
	two := within(api.TBox, named("S"), whole)
	deep := rowOf(api.TMut, 60)
	p := api.Program{Items: append(make([]api.Item, 40),
		api.Item{Kind: api.IFn, Name: "S"}, api.Item{Kind: 77, Name: "S", Fields: []api.Field{{Name: "a", Type: named("no")}}},
		api.Item{Kind: api.IStruct, Name: "S", Fields: []api.Field{
			{Name: "zero"}, {Name: "none", Type: within(api.TRc)}, {Name: "two", Type: two}, {Name: "deep", Type: deep},
			{Name: "*", Type: whole}, {Name: "odd", Type: named("")}, {Name: "cell", Type: within(api.TCell, whole, whole)},
			{Name: "box", Type: api.Type{Kind: api.TBox, Name: "S", Args: []api.Type{whole}}}, {Name: "leaf", Type: within(api.TInt, whole)},
			{Name: "eighth", Type: within(api.TRef, api.Type{})},
		}},
		api.Item{Kind: api.IStruct, Name: "", Fields: []api.Field{{Name: "a", Type: named("S")}}})}
	for path, want := range map[string]api.Type{
		"": named("S"), "zero": {}, "none": within(api.TRc), "two": two, "two *": named("S"), "two * two * zero": {}, "deep": deep,
		"odd": named(""), "odd a": named("S"), "odd a odd a two *": named("S"), "box *": whole, "cell": within(api.TCell, whole, whole),
		"leaf": within(api.TInt, whole), "deep" + strings.Repeat(" *", 59): whole,
	} {
		if to, writable, ok := Walk(p, named("S"), strings.Fields(path)); !ok || !writable || !tree.SameType(to, want) {
			t.Errorf("%q: %v %t %t", path, to, writable, ok)
		}
	}
	if to, writable, ok := Walk(p, named("S"), []string{"eighth", "*"}); !ok || writable || !tree.SameType(to, api.Type{}) {
		t.Error(to, writable, ok)
	}
	for _, path := range []string{"*", "none *", "zero *", "cell *", "leaf *", "box a", "odd *", "two * *", "odd b", "a", "deep" + strings.Repeat(" *", 60)} {
		if got := walked(Walk(p, named("S"), strings.Fields(path))); got != "-" {
			t.Errorf("%q: %s", path, got)
		}
	}
}

// P8.2: a field is found by whatever name it has, in a program that isn't whole; but `*` is no name.
func TestOddNames(t *testing.T) {
	for _, name := range []string{"", "let", "A", "a.b", "**", " ", "averyveryverylongname"} {
		p := api.Program{Items: []api.Item{{Kind: api.IStruct, Name: "S", Fields: []api.Field{
			{Name: "*", Type: api.Type{Kind: api.TBool}}, {Name: name, Type: api.Type{Kind: api.TInt}}, {Name: name, Type: named("S")},
		}}}}
		if got := told(Step(p, named("S"), name)); got != "int" {
			t.Errorf("%q: %s", name, got)
		}
		if got := told(Step(p, named("S"), "*")); got != "-" {
			t.Errorf("%q: %s", name, got)
		}
	}
}

// P8.3: where ways lead, and whether that may be written.
func TestWalk(t *testing.T) {
	p := read(t, "struct S { a: int, b: Box<S>, r: Rc<T>, m: Mutex<S> } struct T { a: bool, s: Arc<S>, c: Cell<int> } enum E { A }")
	for row, want := range map[string]string{
		"S by": "S, may be written", "int by": "int, may be written", "&S by": "& S, may be written", "Rc<S> by": "Rc < S >, may be written",
		"Missing by": "Missing, may be written", "Cell<Cell<&int>> by": "Cell < Cell < & int > >, may be written",
		"S by a": "int, may be written", "S by b * b * b * a": "int, may be written", "S by r": "Rc < T >, may be written",
		"S by r *": "T, may not", "S by r * a": "bool, may not", "S by r * s * b * a": "int, may not", "S by b * r * c": "Cell < int >, may not",
		"Box<S> by *": "S, may be written", "&mut S by * b *": "S, may be written", "&mut Box<&mut S> by * * * a": "int, may be written",
		"&S by * b * a": "int, may not", "Arc<S> by * a": "int, may not", "Rc<S> by * a": "int, may not",
		"&mut &S by *": "& S, may be written", "&mut &S by * *": "S, may not", "& &mut S by *": "& mut S, may not", "& &mut S by * *": "S, may not",
		"&mut &mut S by * * b": "Box < S >, may be written", "Rc<Box<Arc<int>>> by * * *": "int, may not", "Box<Rc<int>> by *": "Rc < int >, may be written",
		"&Box<S> by * * b * b": "Box < S >, may not", "Arc<Rc<int>> by * *": "int, may not",

		"S by a a": "-", "S by a *": "-", "S by *": "-", "S by b b": "-", "S by b * * a": "-", "S by m *": "-", "S by m * a": "-", "S by m a": "-",
		"S by r * c *": "-", "S by c a": "-", "S by c b *": "-", "&S by a": "-", "&S by * a *": "-", "&mut S by * *": "-", "E by A": "-", "Box<E> by * A": "-",
		"Missing by a": "-", "Atomic by *": "-", "Sender<S> by * a": "-", "Receiver<S> by *": "-", "Rc<S> by * c": "-", "Rc<S> by a": "-",
	} {
		from, path, _ := strings.Cut(row, " by")
		if got := walked(Walk(p, typed(t, from), strings.Fields(path))); got != want {
			t.Errorf("%s: %s, want %s", row, got, want)
		}
	}
}

// P8.3: a way may be longer than a place.
func TestLongWay(t *testing.T) {
	p := read(t, "struct S { b: Box<S>, r: Rc<S> }")
	long := slices.Repeat([]string{"b", "*"}, 50000)
	for want, behind := range map[string][]string{
		"S, may be written": nil, "Rc < S >, may be written": {"r"}, "Box < S >, may not": {"r", "*", "b"}, "-": {"*"},
	} {
		if got := walked(Walk(p, named("S"), slices.Concat(long, behind))); got != want {
			t.Errorf("%q: %s", behind, got)
		}
	}
	if got := walked(Walk(p, named("S"), slices.Concat([]string{"r", "*"}, long))); got != "S, may not" {
		t.Error(got)
	}
	if got := walked(Walk(p, named("S"), slices.Concat([]string{"b"}, long))); got != "-" {
		t.Error(got)
	}
}
