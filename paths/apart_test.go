package paths

import (
	"slices"
	"strings"
	"testing"
	"unsafe"

	"weftway/api"
)

// roomy is a place of a text behind whose steps there is spare room with something in it.
func roomy(text string) (p api.Place, whole []string) {
	p = at(text)
	whole = append(slices.Clone(p.Path), "behind", "beyond")
	p.Path = whole[:len(p.Path)]
	return p, whole
}

// P0.4: a place that is answered is in memory of its own, with steps handed in and without, and so is the room behind it.
func TestWithApart(t *testing.T) {
	for _, steps := range [][]string{nil, {}, {"b"}, {"b", "*"}, {"b", "*", "c", "d", "e"}} {
		p, whole := roomy("x.a.*")
		wholeSteps := append(slices.Clone(steps), "behind")
		given := wholeSteps[:len(steps)]
		for range 2 {
			made := With(p, given...)
			if want := slices.Concat([]string{"a", "*"}, steps); made.Name != "x" || !slices.Equal(made.Path, want) {
				t.Fatal(made, want)
			}
			made.Path = made.Path[:cap(made.Path)]
			for i := range made.Path {
				made.Path[i] = "changed"
			}
			_ = append(made.Path, "changed")
			if !slices.Equal(whole, []string{"a", "*", "behind", "beyond"}) || !slices.Equal(wholeSteps, slices.Concat(steps, []string{"behind"})) {
				t.Fatal(whole, wholeSteps)
			}
		}
	}
}

// P0.4: two answers made of one place don't know of each other.
func TestTwoAnswersApart(t *testing.T) {
	p, whole := roomy("x.a")
	first, second := With(p, "b"), With(p, "c")
	third := With(first, "d")
	fourth := With(first, "e")
	if texts([]api.Place{first, second, third, fourth}) != "x.a.b x.a.c x.a.b.d x.a.b.e" || whole[1] != "behind" {
		t.Error(first, second, third, fourth, whole)
	}
}

// P0.4: nothing is written on what Root is asked of, nor by what is appended to its answer.
func TestRootApart(t *testing.T) {
	p, whole := roomy("x.a.*")
	root := Root(p)
	_ = append(root.Path, "changed", "changed")
	if !slices.Equal(whole, []string{"a", "*", "behind", "beyond"}) || len(p.Path) != 2 {
		t.Error(whole)
	}
}

// P0.4: of a row of places nothing is changed, the order neither; what is answered shares nothing with it, nor one of it with another one, even if two that were handed in did.
func TestLeastApart(t *testing.T) {
	row := "y.b x.a.b x.a x.b y.b z w.* w"
	whole := append(all(row), at("behind"), at("x"))
	given := whole[:len(whole)-2]
	given[3].Path = given[0].Path
	least := Least(given)
	if texts(least) != "y.b x.a x.b z w" {
		t.Fatal(texts(least))
	}
	for i := range least {
		behind := texts(least[i+1:])
		least[i].Path = append(least[i].Path, "more")
		least[i].Path = least[i].Path[:cap(least[i].Path)]
		for k := range least[i].Path {
			least[i].Path[k] = "changed"
		}
		if texts(least[i+1:]) != behind {
			t.Error(behind, "became", texts(least[i+1:]))
		}
	}
	least = append(least[:cap(least)], at("more"))
	clear(least)
	if texts(given) != row || texts(whole[len(given):]) != "behind x" {
		t.Error(texts(whole))
	}
}

// P0.4: what was answered stays as it is when what was handed in changes.
func TestNotKept(t *testing.T) {
	p, steps := at("x.a"), []string{"b"}
	with, least, root, text := With(p, steps...), Least([]api.Place{p}), Root(p), Text(p)
	p.Path[0], steps[0] = "changed", "changed"
	if texts([]api.Place{with, least[0], root}) != "x.a.b x.a x" || text != "x.a" {
		t.Error(with, least, root, text)
	}
}

// P0.4: a text is one's own too.
func TestTextsApart(t *testing.T) {
	name, step, more := strings.Clone("xx"), strings.Clone("aa"), strings.Clone("bb")
	p := api.Place{Name: name, Path: []string{step}}
	with, least := With(p, more), Least([]api.Place{p})[0]
	alone := Text(api.Place{Name: name})
	for i, s := range []string{Root(p).Name, with.Name, with.Path[0], with.Path[1], least.Name, least.Path[0], alone} {
		for _, from := range []string{name, step, more} {
			if unsafe.StringData(s) == unsafe.StringData(from) {
				t.Error(i, "is in the memory of what was handed in")
			}
		}
	}
}
