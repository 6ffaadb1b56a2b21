package sets

import (
	"slices"
	"strings"
	"testing"
)

// text is how the tests write names: a blank between.
func text(l []string) string { return strings.Join(l, " ") }

// halves are the names on either side of a bar.
func halves(row string) (a, b []string) {
	first, second, _ := strings.Cut(row, "|")
	return strings.Fields(first), strings.Fields(second)
}

// state is that of a text, its names behind a cross if it is a dead one.
func state(text string) State {
	names, dead := strings.CutPrefix(text, "+")
	return State{Dead: dead, Set: strings.Fields(names)}
}

// told is how the tests write a state, as state reads it.
func told(s State) string {
	if s.Dead {
		return "+" + text(s.Set)
	}
	return text(s.Set)
}

// P12.1: the set of the names: they rise, each once.
func TestOf(t *testing.T) {
	for names, want := range map[string]string{
		"": "", "a": "a", "b a b": "a b", "a b": "a b", "b a": "a b", "a a": "a", "a a a": "a", "a b c": "a b c", "c b a": "a b c", "c a b a c b": "a b c", "b b a a": "a b",
		"b ab a": "a ab b", "aa a ab": "a aa ab", "x10 x9 x1": "x1 x10 x9", "b B a A _ 1": "1 A B _ a b", "é z e": "e z é", "a A a": "A a",
	} {
		if got := Of(strings.Fields(names)...); text(got) != want {
			t.Errorf("%s: %s, want %s", names, text(got), want)
		}
	}
	if got := Of("b", "a", "b"); !slices.Equal(got, []string{"a", "b"}) {
		t.Error(got)
	}
	if got := Of(); got != nil {
		t.Errorf("%#v", got)
	}
}

// P12.1: whether a name is among names, be they a set or not.
func TestHas(t *testing.T) {
	for names, c := range map[string]struct{ yes, no string }{
		"": {"", "a b"}, "a": {"a", "b A aa"}, "a b": {"a b", "c ab"}, "b a b": {"a b", "c aa"}, "c b a": {"a b c", "d B"}, "a c": {"a c", "b d"}, "d b d c": {"b c d", "a e"}, "ab": {"ab", "a b abc"}, "z a": {"a z", "b m"},
	} {
		l := strings.Fields(names)
		for _, name := range strings.Fields(c.yes) {
			if !Has(l, name) {
				t.Errorf("%s: no %s", names, name)
			}
		}
		for _, name := range strings.Fields(c.no) {
			if Has(l, name) {
				t.Errorf("%s: %s", names, name)
			}
		}
	}
}

// P12.2: each row is two rows of names, and what is answered of them: the names that one has, that both have, that the first one alone has.
func TestUnionCommonMinus(t *testing.T) {
	for row, want := range map[string]string{
		"|": "; ; ", "a|": "a; ; a", "|a": "a; ; ", "a|a": "a; a; ", "a|b": "a b; ; a", "b|a": "a b; ; b",
		"a c|b c": "a b c; c; a", "b c|a c": "a b c; c; b", "a b c|b": "a b c; b; a c", "b|a b c": "a b c; b; ", "a b|c d": "a b c d; ; a b", "c d|a b": "a b c d; ; c d",
		"a c e|b d f": "a b c d e f; ; a c e", "b d f|a c e": "a b c d e f; ; b d f", "a b c|a b c": "a b c; a b c; ", "a b c d|b d": "a b c d; b d; a c", "a d|b c": "a b c d; ; a d", "a b c d|a d": "a b c d; a d; b c",
		"c|a b c d e": "a b c d e; c; ", "a e|a b c d e": "a b c d e; a e; ", "a b e|c d e": "a b c d e; e; a b",
		"b a b|c b": "a b c; b; a", "c b a|a b c": "a b c; a b c; ", "c a|c a c": "a c; a c; ", "d a c|b c b": "a b c d; c; a d", "b a|c c": "a b c; ; a b", "z y|y x y": "x y z; y; z",
		"a|ab": "a ab; ; a", "ab a|b": "a ab b; ; a ab", "x1 x10|x10 x2": "x1 x10 x2; x10; x1", "A|a": "A a; ; A",
	} {
		a, b := halves(row)
		if got := text(Union(a, b)) + "; " + text(Common(a, b)) + "; " + text(Minus(a, b)); got != want {
			t.Errorf("%s: %s, want %s", row, got, want)
		}
	}
}

// P12.2: what nothing is left of is nil.
func TestNothingLeft(t *testing.T) {
	a, b := []string{"a"}, []string{"b"}
	for i, got := range [][]string{Union(nil, nil), Union([]string{}, []string{}), Common(a, b), Common(nil, b), Minus(a, a), Minus(nil, b), Join(State{Set: a}, State{Set: b}).Set, Join(State{Dead: true, Set: a}, State{Dead: true, Set: a}).Set} {
		if got != nil {
			t.Errorf("%d: %#v", i, got)
		}
	}
}

// P12.3: each row is two rows of names, and how they stand: the same, or which one has all names of the other one.
func TestSameWithin(t *testing.T) {
	for row, want := range map[string]string{
		"|": "same", "a|a": "same", "a b|a b": "same", "b a|a b": "same", "a b|b a": "same", "a a|a": "same", "b a b|a b a a": "same", "c b a|c a b": "same",
		"|a": "first", "a|a b": "first", "b|a b": "first", "a c|a b c": "first", "b|c b a": "first", "b b|b a": "first", "c a|b c a": "first", "b|a b c": "first",
		"a|": "second", "a b|a": "second", "a b|b": "second", "a b c|a c": "second", "c b a|b b": "second", "a b c|b": "second",
		"a|b": "none", "b|a": "none", "a c|a b": "none", "a b|a c": "none", "a b|b c": "none", "b c|a b": "none", "a c|b d": "none", "a|ab": "none", "ab|a": "none", "a|A": "none", "a b|ab": "none", "b a b|c a c": "none", "a d|a b c": "none",
	} {
		a, b := halves(row)
		same, first, second := want == "same", want == "same" || want == "first", want == "same" || want == "second"
		if Same(a, b) != same || Same(b, a) != same {
			t.Errorf("%s: same %v, %v", row, Same(a, b), Same(b, a))
		}
		if Within(a, b) != first || Within(b, a) != second {
			t.Errorf("%s: within %v, %v", row, Within(a, b), Within(b, a))
		}
	}
}

// P12.4: of two that aren't dead what both know; of a dead one and another one the other one, as a set; of two that are dead a dead one, without names.
func TestJoin(t *testing.T) {
	for _, c := range []struct{ a, b, want string }{
		{"", "", ""}, {"a b", "b c", "b"}, {"a", "b", ""}, {"a", "", ""}, {"a b", "a b", "a b"}, {"a b c", "c a", "a c"}, {"c b a c", "c c a", "a c"}, {"b a", "b a", "a b"},
		{"+", "", ""}, {"+", "a", "a"}, {"+", "b a b", "a b"}, {"+a", "b", "b"}, {"+a b", "a c", "a c"}, {"+a", "", ""}, {"+a", "a", "a"},
		{"+", "+", "+"}, {"+a", "+", "+"}, {"+a", "+a", "+"}, {"+a", "+b", "+"}, {"+b a b", "+a", "+"},
	} {
		if got, back := told(Join(state(c.a), state(c.b))), told(Join(state(c.b), state(c.a))); got != c.want || back != c.want {
			t.Errorf("%s, %s: %s, %s, want %s", c.a, c.b, got, back, c.want)
		}
	}
}

// P12.4: whether the first one knows no more than the second one, and the other way about: a dead one knows all, whatever names it was handed in with.
func TestLess(t *testing.T) {
	for _, c := range []struct {
		a, b        string
		there, back bool
	}{
		{"", "", true, true}, {"a", "a", true, true}, {"", "a", true, false}, {"a", "a b", true, false}, {"b", "a b", true, false}, {"a b", "b c", false, false}, {"a", "b", false, false}, {"b a b", "a b", true, true}, {"b b", "c b a", true, false},
		{"", "+", true, false}, {"a", "+", true, false}, {"a b", "+a", true, false}, {"a", "+a", true, false}, {"", "+a", true, false},
		{"+", "+", true, true}, {"+a", "+", true, true}, {"+a", "+b", true, true}, {"+a", "+a b", true, true},
	} {
		if there, back := Less(state(c.a), state(c.b)), Less(state(c.b), state(c.a)); there != c.there || back != c.back {
			t.Errorf("%s, %s: %v, %v", c.a, c.b, there, back)
		}
	}
}
