package paths

import (
	"slices"
	"strconv"
	"strings"
	"testing"

	"weftway/api"
)

// odd are places that no program has: without a name, with a dot in a name or a step, with empty steps, with bytes that are no text.
func odd() []api.Place {
	return []api.Place{
		{}, {Path: []string{""}}, {Path: []string{"", ""}}, {Path: []string{"a"}},
		{Name: "x"}, {Name: "x", Path: []string{""}}, {Name: "x", Path: []string{"", ""}}, {Name: "x", Path: []string{"", "a"}},
		{Name: "x", Path: []string{"a.b"}}, {Name: "x", Path: []string{"a", "b"}}, {Name: "x.a", Path: []string{"b"}}, {Name: "x.a.b"},
		{Name: "x", Path: []string{"a", ""}}, {Name: "x", Path: []string{"a"}}, {Name: "x", Path: []string{".a"}}, {Name: "x."},
		{Name: "*", Path: []string{"*"}}, {Name: "x", Path: []string{"*"}}, {Name: "x", Path: []string{"\x00"}}, {Name: "x\x00"}, {Name: "x", Path: []string{"\xff"}}, {Name: "\xff"},
	}
}

// P11.1, P11.4: what such a place's steps are counts, not how its text reads.
func TestOddPlaces(t *testing.T) {
	l := odd()
	for i, a := range l {
		for j, b := range l {
			begins := a.Name == b.Name && len(a.Path) <= len(b.Path)
			for k := 0; begins && k < len(a.Path); k++ {
				begins = a.Path[k] == b.Path[k]
			}
			if Begins(a, b) != begins || Same(a, b) != (i == j) || Meets(a, b) != (begins || Begins(b, a)) {
				t.Errorf("%q, %q: %v, %v, %v", a, b, Begins(a, b), Same(a, b), Meets(a, b))
			}
		}
	}
	var names []string
	for _, p := range Least(l) {
		names = append(names, strconv.Quote(Text(p)))
	}
	if got, want := strings.Join(names, " "), `"" "x" "x.a.b" "x.a.b" "x." "*.*" "x\x00" "\xff"`; got != want {
		t.Errorf("%s, want %s", got, want)
	}
}

// P0.4: lists that are nil and empty ones are the same.
func TestEmptyLists(t *testing.T) {
	for _, path := range [][]string{nil, {}} {
		p := api.Place{Name: "x", Path: path}
		for _, other := range [][]string{nil, {}} {
			if o := (api.Place{Name: "x", Path: other}); !Same(p, o) || !Begins(p, o) || !Meets(p, o) || len(Least([]api.Place{p, o})) != 1 {
				t.Error(path == nil, other == nil)
			}
			if got := With(p, other...); got.Name != "x" || len(got.Path) != 0 {
				t.Error(got)
			}
		}
		if !Begins(p, at("x.a")) || Begins(at("x.a"), p) || !Meets(at("x.a"), p) || Same(at("x.a"), p) {
			t.Error("x, x.a")
		}
		if got := Root(p); got.Name != "x" || len(got.Path) != 0 || Through(p) != 0 || Text(p) != "x" {
			t.Error(got)
		}
	}
	if len(Least(nil)) != 0 || len(Least([]api.Place{})) != 0 {
		t.Error("something out of nothing")
	}
}

// P0.1: long rows, and long places, are answered in a time that doesn't grow with their square.
func TestMany(t *testing.T) {
	var l []api.Place
	for i := range 200000 {
		p := api.Place{Name: "x" + strconv.Itoa(i/2)}
		if i%2 == 0 {
			p.Path = []string{"a"}
		}
		l = append(l, p)
	}
	least := Least(l)
	if len(least) != 100000 || Text(least[0]) != "x0" || Text(least[99999]) != "x99999" {
		t.Error(len(least))
	}
	deep := api.Place{Name: "x", Path: slices.Repeat([]string{"*", "a"}, 300000)}
	deeper := With(deep, "*")
	if !Begins(deep, deeper) || Begins(deeper, deep) || Through(deeper) != 300001 || len(Text(deeper)) != 1200003 || len(Least([]api.Place{deeper, deep})) != 1 {
		t.Error("a place of 600000 steps")
	}
}
