package typing

import (
	"slices"
	"strings"
	"testing"

	"weftway/api"
	"weftway/tree"
)

// placed is what Place answers, as a row.
func placed(p api.Program, env []api.Field, place string) string {
	t, writable, ok := Place(p, env, use(place).Place)
	switch {
	case !ok && (writable || !tree.SameType(t, api.Type{})):
		return "something beside no"
	case !ok:
		return "-"
	case writable:
		return words(t) + ", may be written"
	}
	return words(t) + ", may not"
}

// P10.2: the type, and whether it may be written: not through an Rc, an Arc, a &.
func TestPlace(t *testing.T) {
	p := read(t, "struct S { a: int, b: Box<S>, c: Rc<S>, d: Cell<int> } enum E { A(int) }")
	env := []api.Field{{Name: "x", Type: typeOf("S")}, {Name: "r", Type: typeOf("ref S")}, {Name: "m", Type: typeOf("mut S")}, {Name: "k", Type: typeOf("ref mut S")}, {Name: "z", Type: typeOf("mut ref S")}, {Name: "w", Type: typeOf("Arc Mutex S")}, {Name: "e", Type: typeOf("E")}, {Name: "o", Type: typeOf("Atomic")}}
	for place, want := range map[string]string{
		"x": "S, may be written", "x.a": "int, may be written", "x.b": "Box S, may be written", "x.b.*": "S, may be written", "x.b.*.b.*.a": "int, may be written", "x.c": "Rc S, may be written", "x.c.*": "S, may not", "x.c.*.b.*.a": "int, may not", "x.d": "Cell int, may be written",
		"r": "ref S, may be written", "r.*": "S, may not", "r.*.a": "int, may not", "m": "mut S, may be written", "m.*": "S, may be written", "m.*.b.*.a": "int, may be written", "m.*.c.*": "S, may not",
		"k": "ref mut S, may be written", "k.*": "mut S, may not", "k.*.*": "S, may not", "z.*": "ref S, may be written", "z.*.*": "S, may not", "w.*": "Mutex S, may not", "e": "E, may be written", "o": "Atomic, may be written",
		"y": "-", "": "-", "x.e": "-", "x.*": "-", "x.a.*": "-", "x.d.*": "-", "r.a": "-", "w.*.*": "-", "e.A": "-", "o.*": "-", "x.": "-", "X": "-", "x.b.*.*": "-",
	} {
		if got := placed(p, env, place); got != want {
			t.Errorf("%s: %s, want %s", place, got, want)
		}
	}
	if got := placed(p, nil, "x"); got != "-" {
		t.Error(got)
	}
	if got := placed(api.Program{}, env, "x"); got != "S, may be written" {
		t.Error(got)
	}
	if got := placed(api.Program{}, env, "x.a"); got != "-" {
		t.Error(got)
	}
}

// P10.2: a place has the type that its way leads to, be its names those of a place or not, be it as long as it is.
func TestPlaceNotWhole(t *testing.T) {
	p := api.Program{Items: []api.Item{{Kind: api.IStruct, Name: "", Fields: []api.Field{{Name: "A", Type: typeOf("int")}, {Name: "let", Type: typeOf("Rc int")}, {Name: "b", Type: typeOf("Box Box int")}}}, {Kind: api.IStruct, Name: "S", Fields: []api.Field{{Name: "a", Type: typeOf("S")}, {Name: "", Type: api.Type{Kind: api.TNamed}}, {Name: "n", Type: api.Type{Kind: api.TNamed}}}}}}
	env := []api.Field{{Name: "", Type: typeOf("S")}, {Name: "X", Type: typeOf("S")}, {Name: "let", Type: typeOf("int")}, {Name: "bad", Type: api.Type{Kind: api.TBox}}, {Name: "none"}, {Name: "named", Type: api.Type{Kind: api.TNamed}}, {Name: "odd", Type: api.Type{Kind: api.TInt, Name: "S"}}}
	for place, want := range map[string]string{
		"": "S, may be written", "X": "S, may be written", "X.a": "S, may be written", "let": "int, may be written", "X.n.A": "int, may be written", "X..A": "int, may be written", "X.n.let.*": "int, may not", "bad": "-", "bad.*": "-", "none": "-", "named": "-", "named.A": "-", "odd": "-",
		"X" + strings.Repeat(".a", 1000): "S, may be written", "X" + strings.Repeat(".a", 1000) + ".b": "-", "X.n.b.*.*": "int, may be written", "X.n.b.*.*.*": "-",
	} {
		if got := placed(p, env, place); got != want {
			t.Errorf("%.40s: %s, want %s", place, got, want)
		}
	}
	// What isn't whole hides what has the name ahead of it.
	env = append(env, api.Field{Name: "X", Type: api.Type{Kind: api.TBox}})
	if got := placed(p, env, "X"); got != "-" {
		t.Error(got)
	}
}

// P10.2: what the second judge says of all places in scattered programs.
func TestScatteredPlaces(t *testing.T) {
	count := map[string]int{}
	scattered(t, 29, 300, 100, func(m *maker, p api.Program) {
		env := envOf(m.row(), m.row(), m.row(), m.owned(3), m.row())
		j := judgeOf(p, env)
		for range 40 {
			x := api.Place{Name: pick(m, "v0", "v1", "v2", "v3", "v4")}
			for range m.below(4) {
				row, _ := j.place(x)
				steps := slices.DeleteFunc([]string{"*", "f0", "f1", "f2", "f3", "V0"}, func(s string) bool { to, _ := j.step(row, s); return to == "" && m.below(40) > 0 })
				if len(steps) > 0 {
					x.Path = append(x.Path, pick(m, steps...))
				}
			}
			want := "-"
			row, writable := j.place(x)
			switch {
			case row != "" && writable:
				want = row + ", may be written"
			case row != "":
				want = row + ", may not"
			}
			got := placed(p, env, strings.Join(append([]string{x.Name}, x.Path...), "."))
			if got != want {
				t.Fatalf("%+v: %s, want %s", x, got, want)
			}
			if len(x.Path) > 1 {
				_, kind, _ := strings.Cut(got, ",")
				count[kind]++
			}
		}
	})
	if count[""] < 500 || count[" may not"] < 300 || count[" may be written"] < 300 {
		t.Error(count)
	}
}
