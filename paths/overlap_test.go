package paths

import (
	"slices"
	"testing"

	"weftway/api"
)

// each are all places of some variables with up to that many steps out of some.
func each(deep int, steps ...string) []api.Place {
	l := []api.Place{{Name: "x"}, {Name: "y"}}
	from := 0
	for range deep {
		for _, p := range l[from:] {
			for _, step := range steps {
				l = append(l, api.Place{Name: p.Name, Path: slices.Concat(p.Path, []string{step})})
			}
			from++
		}
	}
	return l
}

// leads says whether there are steps behind a place that make it another one: all there are are tried.
func leads(from, to api.Place, deep int, steps []string) bool {
	if Same(from, to) {
		return true
	}
	return deep > 0 && slices.ContainsFunc(steps, func(step string) bool {
		return leads(With(from, step), to, deep-1, steps)
	})
}

// P11.5: two places meet just if there are steps behind one of them that make it the other one, and begins just if they are behind that one.
func TestMeetBySteps(t *testing.T) {
	steps := []string{"a", "b", "*"}
	l := each(3, steps...)
	if len(l) != 2*(1+3+9+27) {
		t.Fatal(len(l))
	}
	for _, a := range l {
		for _, b := range l {
			there, back := leads(a, b, 3, steps), leads(b, a, 3, steps)
			if Begins(a, b) != there || Meets(a, b) != (there || back) {
				t.Errorf("%s, %s: begins %v, meets %v", Text(a), Text(b), Begins(a, b), Meets(a, b))
			}
		}
	}
}

// P11.5: what one begins, and that begins a third one, it begins, too; the places that begin a third one all meet.
func TestBeginsAcross(t *testing.T) {
	l := each(3, "a", "*")
	chains := 0
	for _, a := range l {
		for _, b := range l {
			for _, c := range l {
				if Begins(a, b) && Begins(b, c) {
					chains++
					if !Begins(a, c) {
						t.Errorf("%s, %s, %s", Text(a), Text(b), Text(c))
					}
				}
				if Begins(a, c) && Begins(b, c) && !Meets(a, b) {
					t.Errorf("%s and %s begin %s", Text(a), Text(b), Text(c))
				}
			}
		}
	}
	if chains < 100 {
		t.Error(chains)
	}
}

// P11.5, P11.2: a place begins itself with steps behind it, the variable alone begins the place, and the steps that are behind there lead back.
func TestRootBegins(t *testing.T) {
	for _, p := range each(4, "a", "*") {
		root := Root(p)
		if !Begins(root, p) || !Same(With(root, p.Path...), p) || Begins(p, root) != (len(p.Path) == 0) {
			t.Error(Text(p))
		}
		for _, more := range [][]string{nil, {"a"}, {"*", "*"}, p.Path} {
			longer := With(p, more...)
			if !Begins(p, longer) || !Meets(longer, p) || Same(longer, p) != (len(more) == 0) || !Same(Root(longer), root) {
				t.Error(Text(p), more)
			}
			if Through(longer) != Through(p)+Through(api.Place{Path: more}) || Text(longer) != Text(p)+Text(api.Place{Path: more}) {
				t.Error(Text(longer))
			}
		}
	}
}
