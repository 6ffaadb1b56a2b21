package types

import (
	"slices"
	"testing"

	"weftway/api"
	"weftway/show"
	"weftway/tables"
	"weftway/tree"
)

// scattered hands on so many programs, each of which is whole.
func scattered(t *testing.T, seed dice, n int, kept bool, each func(m *maker, p api.Program, b book)) {
	t.Helper()
	m := &maker{dice: &seed, kept: kept}
	for range n {
		p := m.program()
		if !tree.Whole(p) {
			t.Fatalf("%+v", p)
		}
		each(m, p, bookOf(p))
	}
}

// P8.2, P8.3: whatever the program, the type, the way: what the second judge says; and a step is a way of one.
func TestScattered(t *testing.T) {
	count := map[string]int{}
	scattered(t, 5, 6000, false, func(m *maker, p api.Program, b book) {
		for range 8 {
			from := m.kind(5)
			path := m.path(b, show.Type(from), 7)
			want := b.walk(show.Type(from), path)
			if got := walked(Walk(p, from, path)); got != want {
				t.Fatalf("%s\n%s by %q: %s, want %s", show.Program(p), show.Type(from), path, got, want)
			}
			_, writable, ok := Walk(p, from, path)
			switch {
			case ok && len(path) > 2 && writable:
				count["written"]++
			case ok && len(path) > 2:
				count["not written"]++
			case !ok:
				count["nowhere"]++
			}
			if len(path) != 1 {
				continue
			}
			count["one"]++
			stepped, is := Step(p, from, path[0])
			if to, _, ok := Walk(p, from, path); is != ok || !Same(to, stepped) {
				t.Fatalf("%s\n%s by %q: %s, %t", show.Program(p), show.Type(from), path, show.Type(stepped), is)
			}
		}
	})
	if count["written"] < 2000 || count["not written"] < 2000 || count["nowhere"] < 2000 || count["one"] < 2000 {
		t.Error(count)
	}
}

// P8.2: each step from each type, in scattered programs.
func TestEachStep(t *testing.T) {
	steps := []string{"*", "a", "b", "c", "V", "W", "A", "", "x", "**", "let", "a.b"}
	scattered(t, 11, 60, false, func(_ *maker, p api.Program, b book) {
		eachType(3, []string{"A", "B", "C", "D", "E"}, func(from api.Type) {
			for _, step := range steps {
				want, _ := b.step(show.Type(from), step)
				if want == "" {
					want = "-"
				}
				if got := told(Step(p, from, step)); got != want {
					t.Fatalf("%s\n%s by %q: %s, want %s", show.Program(p), show.Type(from), step, got, want)
				}
			}
		})
	})
}

// P8.4: each way cut in two at each place leads where the pieces do.
func TestInPieces(t *testing.T) {
	right, apart := 0, 0
	scattered(t, 23, 4000, false, func(m *maker, p api.Program, b book) {
		from := m.kind(5)
		path := m.path(b, show.Type(from), 9)
		to, writable, ok := Walk(p, from, path)
		for i := range len(path) + 1 {
			half, first, is := Walk(p, from, path[:i])
			end, second, both := Walk(p, half, path[i:])
			if !is {
				both = false
			}
			if both != ok || ok && (!Same(end, to) || writable != (first && second)) {
				t.Fatalf("%s\n%s by %q, cut at %d", show.Program(p), show.Type(from), path, i)
			}
			if ok {
				right++
			}
			if ok && first != second {
				apart++
			}
		}
	})
	if right < 5000 || apart < 1000 {
		t.Error(right, apart)
	}
}

// P8.5: in a program whose types are right each step from an owned type leads to an owned one.
func TestOwnedStays(t *testing.T) {
	programs, steps := 0, 0
	scattered(t, 31, 6000, true, func(m *maker, p api.Program, b book) {
		// An item whose types are wrong, or that has itself, is left out, till all is right.
		for len(tables.Check(p)) > 0 {
			at := m.below(len(p.Items))
			p.Items = slices.Delete(p.Items, at, at+1)
		}
		if len(p.Items) == 0 {
			return
		}
		programs++
		b = bookOf(p)
		for range 8 {
			from := m.kind(4)
			for _, step := range b.stepsFrom(show.Type(from)) {
				to, ok := Step(p, from, step)
				if !ok || !Owned(from) || !Owned(to) {
					t.Fatalf("%s\n%s by %s: %s", show.Program(p), show.Type(from), step, show.Type(to))
				}
				steps++
			}
		}
	})
	if programs < 3000 || steps < 10000 {
		t.Error(programs, steps)
	}
}

// P8.5: a reference leads to what is owned, or not; what isn't owned is led to from what isn't alone, or from a field that chapter 7 finds.
func TestOwnedLost(t *testing.T) {
	wrong := read(t, "struct S { a: &int, b: Box<&int> }")
	if len(tables.Check(wrong)) != 2 {
		t.Fatal(tables.Check(wrong))
	}
	for _, step := range []string{"a", "b"} {
		if to, ok := Step(wrong, named("S"), step); !ok || Owned(to) || !Owned(named("S")) {
			t.Error(step)
		}
	}
	for s, want := range map[string]bool{"&int": true, "& &int": false, "Box<&int>": false, "&mut Box<int>": true} {
		if to, ok := Step(wrong, typed(t, s), "*"); !ok || Owned(to) != want {
			t.Error(s)
		}
	}
}
