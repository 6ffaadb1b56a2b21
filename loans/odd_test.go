package loans

import (
	"math"
	"slices"
	"strconv"
	"testing"

	"weftway/api"
)

// P0.4: lists that are nil and empty ones are the same, and nothing is answered as nil.
func TestEmptyLists(t *testing.T) {
	one := book("x:1")
	for _, a := range [][]Loan{nil, {}} {
		if May(a, at("x"), UDrop) != api.OK || End(a, 0) != nil || Of(a, "x") != nil || told(Add(a, one[0])) != "x:1" || told(Union(a, one)) != "x:1" || told(Union(one, a)) != "x:1" || Same(a, one) || Same(one, a) {
			t.Error(a == nil)
		}
		for _, b := range [][]Loan{nil, {}} {
			if Union(a, b) != nil || !Same(a, b) {
				t.Error(a == nil, b == nil)
			}
		}
	}
	if End(one, 0) != nil || Of(one, "y") != nil {
		t.Error("something is left")
	}
}

// P0.4: so are a place's steps.
func TestEmptyPaths(t *testing.T) {
	without, empty := Loan{Place: api.Place{Name: "x"}, Till: 1}, Loan{Place: api.Place{Name: "x", Path: []string{}}, Till: 1}
	a, b := []Loan{without}, []Loan{empty}
	if !Same(a, b) || len(Add(a, empty)) != 1 || len(Add(b, without)) != 1 || len(Union(a, b)) != 1 || len(Union(b, a)) != 1 {
		t.Error("two loans of x")
	}
	if May(a, empty.Place, UMove) != api.ErrLoan || May(b, without.Place, UMove) != api.ErrLoan || len(Of(b, "x")) != 1 {
		t.Error("x isn't x")
	}
}

// odd are places that no program has: without a name, with a dot or a digit where none may be, with empty steps, with bytes that are no text.
func odd() []api.Place {
	return []api.Place{
		{}, {Path: []string{""}}, {Path: []string{"", ""}}, {Path: []string{"a"}}, {Name: "a"},
		{Name: "x"}, {Name: "x", Path: []string{""}}, {Name: "x", Path: []string{"", "a"}}, {Name: "x", Path: []string{"a", ""}}, {Name: "x", Path: []string{"a"}},
		{Name: "x", Path: []string{"a.b"}}, {Name: "x", Path: []string{"a", "b"}}, {Name: "x.a", Path: []string{"b"}}, {Name: "x.a.b"}, {Name: "x1.a"}, {Name: "x1.a1.b"}, {Name: "x1", Path: []string{"a1.b"}},
		{Name: "2345678901x"}, {Name: "1", Path: []string{"34", "67890", "x"}}, {Name: "1.x"}, {Name: "1", Path: []string{"x"}}, {Name: "0."}, {Name: "x0."}, {Name: "x", Path: []string{"0."}}, {Name: "x\x00a"}, {Name: "x", Path: []string{"\x00a"}}, {Name: "x", Path: []string{"\xff"}}, {Name: "x", Path: []string{"\ufffd"}}, {Name: "x", Path: []string{"\xfe"}}, {Name: "\xff"},
	}
}

// P13.1 to P13.3: such places are like others: two are one just if their names and steps are.
func TestOddPlaces(t *testing.T) {
	var all []Loan
	for _, p := range odd() {
		all = append(all, Loan{Place: p, Till: 1})
	}
	back := slices.Clone(all)
	slices.Reverse(back)
	if len(Union(all, back)) != len(all) || told(Union(nil, all)) != told(all) || !Same(all, back) {
		t.Error(told(Union(all, back)))
	}
	for i, x := range all {
		others := slices.Concat(all[:i], all[i+1:])
		if len(Add(all, x)) != len(all) || len(Add(others, x)) != len(all) || Same(all, others) || Same(others, all) {
			t.Errorf("%v: one of the others", x.Place)
		}
		for j, y := range all {
			if Same([]Loan{x}, []Loan{y}) != (i == j) {
				t.Errorf("%q, %q: same %v", x.Place, y.Place, i != j)
			}
			steps := min(len(x.Place.Path), len(y.Place.Path))
			meets := x.Place.Name == y.Place.Name && slices.Equal(x.Place.Path[:steps], y.Place.Path[:steps])
			if May([]Loan{x}, y.Place, URead) != api.OK || (May([]Loan{x}, y.Place, UMove) == api.ErrLoan) != meets {
				t.Errorf("%q, %q: meet %v", x.Place, y.Place, !meets)
			}
			if named := Of([]Loan{y}, x.Place.Name); (len(named) == 1) != (x.Place.Name == y.Place.Name) {
				t.Errorf("%q, %q: of its name", x.Place, y.Place)
			}
		}
	}
}

// P13.2, P13.3: what is handed in and has a loan twice isn't a book: what is asked to stay as it is stays so, what comes behind it comes once, and two that have the same loans are the same.
func TestTwice(t *testing.T) {
	l := book("x:1 y!2 x:1 y!2 x:1")
	if got := told(Add(l, l[0])); got != told(l) {
		t.Error(got)
	}
	if got := told(Union(l, book("z:1 x:1 z:1 z!1"))); got != told(l)+" z:1 z!1" {
		t.Error(got)
	}
	if got := told(Union(nil, l)); got != "x:1 y!2" {
		t.Error(got)
	}
	if a, b := told(End(l, 2)), told(Of(l, "y")); a != "x:1 x:1 x:1" || b != "y!2 y!2" {
		t.Error(a, b)
	}
	if !Same(l, book("y!2 x:1")) || !Same(book("y!2 x:1"), l) || Same(l, book("x:1 x:1 x:1")) || Same(book("y!2 y!2"), l) || !Same(book("x:1 x:1 y:1"), book("x:1 y:1 y:1")) {
		t.Error("same")
	}
}

// P0.5, P13.2: depths at the ends of what an int can be, and below 0, are held against each other like others.
func TestOddDepths(t *testing.T) {
	depths := []int{math.MinInt, -2, -1, 0, 1, api.MaxDeep, math.MaxInt - 1, math.MaxInt}
	var l []Loan
	for _, till := range depths {
		l = Add(l, Loan{Place: at("x"), Till: till})
	}
	if len(l) != len(depths) || len(Union(l, l)) != len(depths) {
		t.Error(told(l))
	}
	for i, depth := range depths {
		if got := told(End(l, depth)); got != told(l[:i]) {
			t.Errorf("%d: %s", depth, got)
		}
		if May(l[i:i+1], at("x"), UWrite) != api.ErrLoan {
			t.Error(depth)
		}
	}
}

// P0.1: long books, and long places, are answered in a time that doesn't grow with their square.
func TestMany(t *testing.T) {
	var a, b []Loan
	for i := range 150000 {
		x := Loan{Place: api.Place{Name: "x" + strconv.Itoa(i/3), Path: []string{strconv.Itoa(i % 3)}}, Alone: i%2 == 0, Till: i % 5}
		if i%3 != 0 {
			a = append(a, x)
		}
		if i%3 != 1 {
			b = append(b, x, x)
		}
	}
	back := slices.Clone(a)
	slices.Reverse(back)
	if union := Union(a, b); len(union) != 150000 || !Same(union, Union(b, a)) || Same(union, a) || !Same(a, back) {
		t.Error("Union, Same")
	}
	if len(Add(a, b[0])) != 100001 || len(Add(a, a[50000])) != 100000 || len(End(a, 3)) != 60000 || len(Of(a, "x7")) != 2 {
		t.Error("Add, End, Of")
	}
	if May(a, at("x7.0"), UMove) != api.OK || May(a, at("x7"), UMove) != api.ErrLoan || May(a, at("x50000"), UMove) != api.OK {
		t.Error("May")
	}
	deep := Loan{Place: api.Place{Name: "x", Path: slices.Repeat([]string{"*", "a"}, 200000)}, Alone: true}
	deeper := deep
	deeper.Place.Path = append(slices.Clone(deep.Place.Path), "*")
	if l := Add([]Loan{deep}, deeper); len(l) != 2 || len(Add(l, deep)) != 2 || May(l[1:], deep.Place, URead) != api.ErrLoan {
		t.Error("a place of 400000 steps")
	}
}
