package tables

import (
	"slices"
	"testing"

	"weftway/api"
	"weftway/show"
	"weftway/tree"
)

// scattered hands on so many programs, each of which is whole.
func scattered(t *testing.T, seed dice, n int, bare bool, each func(m *maker, p api.Program)) {
	t.Helper()
	m := &maker{dice: &seed, bare: bare}
	for range n {
		p := m.program()
		if !tree.Whole(p) {
			t.Fatalf("%+v", p)
		}
		each(m, p)
	}
}

func count(l []api.Fault, err api.Errno) int {
	n := 0
	for _, f := range l {
		if f.Err == err {
			n++
		}
	}
	return n
}

// P7.1: of whatever program what the second judge says, in its order.
func TestScattered(t *testing.T) {
	right, table, infinite := 0, 0, 0
	scattered(t, 7, 20000, false, func(_ *maker, p api.Program) {
		got, want := Check(p), judged(p)
		if !slices.Equal(got, want) {
			t.Fatalf("%s\n%v, want %v", show.Program(p), got, want)
		}
		if len(got) == 0 {
			right++
		}
		table += count(got, api.ErrTable)
		infinite += count(got, api.ErrInfinite)
	})
	if right < 1000 || table < 10000 || infinite < 5000 {
		t.Error(right, table, infinite)
	}
}

// P7.2: the fields of each name are those of the first one that the program has.
func TestScatteredFields(t *testing.T) {
	scattered(t, 11, 1000, false, func(_ *maker, p api.Program) {
		for _, name := range []string{"A", "B", "C", "D", "E", "F", "Missing", "f"} {
			i := firstOf(p, name)
			l, ok := Fields(p, name)
			if ok != (i >= 0) {
				t.Fatalf("%s: %v, %t", name, l, ok)
			}
			same := func(a, b api.Field) bool { return a.Name == b.Name && tree.SameType(a.Type, b.Type) }
			if ok && !slices.EqualFunc(l, p.Items[i].Fields, same) {
				t.Fatalf("%s: %v, %v", name, l, p.Items[i])
			}
		}
	})
}

// P7.4: programs that name no struct and no enum.
func TestBare(t *testing.T) {
	faults := 0
	scattered(t, 13, 3000, true, func(_ *maker, p api.Program) {
		got := Check(p)
		faults += len(got)
		if count(got, api.ErrInfinite) > 0 {
			t.Fatalf("%s\n%v", show.Program(p), got)
		}
	})
	if faults < 1000 {
		t.Error(faults)
	}
}

// boxed puts the types of an item's fields that are names into Boxes.
func boxed(x *api.Item) {
	for i, f := range x.Fields {
		if f.Type.Kind == api.TNamed {
			x.Fields[i].Type = api.Type{Kind: api.TBox, Args: []api.Type{f.Type}}
		}
	}
}

// P7.4: what has itself has itself no more once its fields are boxed; nobody has himself who had not.
func TestBoxed(t *testing.T) {
	found := 0
	scattered(t, 17, 5000, false, func(m *maker, p api.Program) {
		before := Check(p)
		for i := range p.Items {
			fault := api.Fault{Err: api.ErrInfinite, At: p.Items[i].At}
			if !slices.Contains(before, fault) {
				continue
			}
			found++
			q := tree.Copy(p)
			boxed(&q.Items[i])
			after := Check(q)
			if slices.Contains(after, fault) || count(after, api.ErrTable) != count(before, api.ErrTable) {
				t.Fatalf("%s\n%v, was %v", show.Program(q), after, before)
			}
			if slices.ContainsFunc(after, func(f api.Fault) bool { return !slices.Contains(before, f) }) {
				t.Fatalf("%s\n%v, was %v", show.Program(q), after, before)
			}
		}
		for i := range p.Items {
			if p.Items[i].Kind != api.IFn {
				boxed(&p.Items[i])
			}
		}
		if after := Check(p); count(after, api.ErrInfinite) > 0 {
			t.Fatalf("%s\n%v", show.Program(p), after)
		}
	})
	if found < 1000 {
		t.Error(found)
	}
}
