package paths

import (
	"slices"
	"strings"
	"testing"

	"weftway/api"
)

// at is the place of a text: the variable, then of each step a dot and the step.
func at(text string) api.Place {
	parts := strings.Split(text, ".")
	return api.Place{Name: parts[0], Path: parts[1:]}
}

// all are the places of texts that stand apart by a blank.
func all(texts string) []api.Place {
	var l []api.Place
	for _, text := range strings.Fields(texts) {
		l = append(l, at(text))
	}
	return l
}

// texts is how the tests write a row of places: their texts, a blank between.
func texts(l []api.Place) string {
	var parts []string
	for _, p := range l {
		parts = append(parts, strings.Join(slices.Concat([]string{p.Name}, p.Path), "."))
	}
	return strings.Join(parts, " ")
}

// P11.1: each row says of two places which one begins the other one; they meet just then, and are the same if both do.
func TestBeginsMeetsSame(t *testing.T) {
	for row, want := range map[string]string{
		"x x": "both", "x.a x.a": "both", "x.*.a x.*.a": "both",
		"x x.a": "first", "x x.*": "first", "x x.a.b.c": "first", "x.a x.a.b": "first", "x.a.* x.a.*.b": "first", "x.* x.*.*": "first",
		"x.a x": "second", "x.a.* x": "second", "x.a.b.c x.a": "second", "x.*.* x.*": "second",
		"x y": "none", "x.a x.b": "none", "x.a y.a": "none", "x y.a": "none", "x.* x.a": "none", "x.a.b x.a.c": "none", "x.b x.a.b": "none", "x.a.b x.b": "none", "x.a.b.c x.a.c": "none", "x.a.a x.b.a": "none", "x.a.b x.b.a": "none",
		"x xx": "none", "x.a x.ab": "none", "xx x": "none", "x.ab x.a.b": "none", "a.x x.a": "none", "x x1": "none", "x X": "none",
	} {
		l := all(row)
		a, b := l[0], l[1]
		first, second := want == "first" || want == "both", want == "second" || want == "both"
		if Begins(a, b) != first || Begins(b, a) != second {
			t.Errorf("%s: begins %v, %v", row, Begins(a, b), Begins(b, a))
		}
		if meets := want != "none"; Meets(a, b) != meets || Meets(b, a) != meets {
			t.Errorf("%s: meets %v, %v", row, Meets(a, b), Meets(b, a))
		}
		if same := want == "both"; Same(a, b) != same || Same(b, a) != same {
			t.Errorf("%s: same %v, %v", row, Same(a, b), Same(b, a))
		}
	}
}

// P11.2: the variable alone.
func TestRoot(t *testing.T) {
	for text, want := range map[string]string{"x": "x", "x.a": "x", "x.*.a.*": "x", "y1.x": "y1", "": "", ".a": ""} {
		if got := Root(at(text)); got.Name != want || len(got.Path) != 0 {
			t.Errorf("%s: %v", text, got)
		}
	}
}

// P11.2: the place, and the steps behind its own.
func TestWith(t *testing.T) {
	for _, c := range []struct{ from, steps, want string }{
		{"x", "", "x"}, {"x", "a", "x.a"}, {"x", "*", "x.*"}, {"x", "a b *", "x.a.b.*"},
		{"x.a", "", "x.a"}, {"x.a", "b", "x.a.b"}, {"x.a.*", "a b", "x.a.*.a.b"}, {"x.*", "* *", "x.*.*.*"}, {"", "a", ".a"},
	} {
		if got := With(at(c.from), strings.Fields(c.steps)...); texts([]api.Place{got}) != c.want || len(got.Path) != strings.Count(c.want, ".") {
			t.Errorf("%s with %s: %v", c.from, c.steps, got)
		}
	}
	if got := With(at("x.a"), "b", "*"); !slices.Equal(got.Path, []string{"a", "b", "*"}) {
		t.Error(got)
	}
	if got := With(at("x.a")); !slices.Equal(got.Path, []string{"a"}) {
		t.Error(got)
	}
}

// P11.3: how many steps are `*`: neither the variable nor a step in which one stands beside something counts.
func TestThrough(t *testing.T) {
	for text, want := range map[string]int{"x": 0, "x.a": 0, "x.*": 1, "x.*.a": 1, "x.a.*": 1, "x.*.a.*": 2, "x.*.*.*": 3, "x.a.b.c": 0, "": 0, "*": 0, "*.*": 1, "x.**": 0, "x.*a.a*": 0, "x..*": 1} {
		if got := Through(at(text)); got != want {
			t.Errorf("%s: %d, want %d", text, got, want)
		}
	}
}

// P11.3: the variable, then of each step a dot and the step.
func TestText(t *testing.T) {
	for _, text := range []string{"x", "x.a", "x.*", "x.a.*", "x.*.a.*", "long_name1.x.Y_", "", ".", "..", "x.", ".a", "x. .b", "x.é"} {
		if got := Text(at(text)); got != text {
			t.Errorf("%q: %q", text, got)
		}
	}
	if got := Text(api.Place{}); got != "" {
		t.Errorf("%q", got)
	}
}

// P11.4: those that no other one begins, once, in the order in which they come first.
func TestLeast(t *testing.T) {
	for row, want := range map[string]string{
		"": "", "x": "x", "x x": "x", "x y": "x y", "y x": "y x", "x.a": "x.a",
		"x.a x y.b y.b x.c": "x y.b", "x x.a": "x", "x.a x": "x", "x.a x.b": "x.a x.b", "x.b x.a": "x.b x.a",
		"x.a.b x.a x": "x", "x x.a x.a.b": "x", "x.a.b x x.a": "x", "x.a.b x.a.c x.a": "x.a",
		"z y x y z": "z y x", "b a.c a.b a.c b": "b a.c a.b", "x.b x.a x.b.* x.a.*": "x.b x.a", "x.b.* x.a.* x.b x.a": "x.b x.a",
		"x.a y x.a.b y.* x.b": "x.a y x.b", "y x.a z x y.*": "y z x", "x x1 x.a x1.a": "x x1", "x.a x.a1 x.a.b x.a1.b": "x.a x.a1",
		"x.* x.*.* x.a.*": "x.* x.a.*", "x.ab x.a.b": "x.ab x.a.b", "x.a.z x.b x.a x.b.a x.c": "x.b x.a x.c",
	} {
		if got := texts(Least(all(row))); got != want {
			t.Errorf("%s: %s, want %s", row, got, want)
		}
	}
}
