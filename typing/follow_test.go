package typing

import (
	"reflect"
	"slices"
	"strings"
	"testing"

	"weftway/api"
	"weftway/names"
	"weftway/show"
	"weftway/tables"
	"weftway/tree"
	"weftway/types"
)

// envNow is an environment with the variables that a judge knows.
func envNow(j judge) []api.Field {
	var env []api.Field
	for name, row := range j.vars {
		if row != "" {
			env = append(env, api.Field{Name: name, Type: typeOf(row)})
		}
	}
	return env
}

// P10.3: each expression where it stands in scattered programs, right and wrong ones.
func TestExprWhereItStands(t *testing.T) {
	yes, no := 0, 0
	scattered(t, 41, 200, 60, func(_ *maker, p api.Program) {
		judgedWith(p, func(j judge, e api.Expr) {
			j.met = nil
			env := envNow(j)
			got, want := rowOf(p, env, e), judgedExpr(p, env, e)
			if got != want {
				t.Fatalf("%s\n%+v: %s, want %s", show.Program(p), e, got, want)
			}
			if got == "-" {
				no++
			} else {
				yes++
			}
		})
	})
	if yes < 5000 || no < 500 {
		t.Error(yes, no)
	}
}

// P10.5: in programs without faults each expression that is not of a place's type is owned, and so are all results.
func TestOwned(t *testing.T) {
	lent, owned := 0, 0
	scattered(t, 43, 300, 0, func(_ *maker, p api.Program) {
		if Check(p) != nil {
			t.Fatal(show.Program(p))
		}
		judgedWith(p, func(j judge, e api.Expr) {
			j.met = nil
			got, ok := Expr(p, envNow(j), e)
			switch {
			case !ok:
				t.Fatalf("%s\n%+v", show.Program(p), e)
			case e.Op == api.EUse || e.Op == api.EShare || e.Op == api.EMut:
				if !types.Owned(got) {
					lent++
				}
			case types.Owned(got):
				owned++
			default:
				t.Fatalf("%s\n%+v: %s", show.Program(p), e, words(got))
			}
		})
		for _, x := range p.Items {
			if !types.Owned(x.Result) {
				t.Fatal(x.Name)
			}
		}
	})
	if lent < 40 || owned < 10000 {
		t.Error(lent, owned)
	}
}

// P10.4: a function more, a struct more, wherever they stand, of names of their own: nothing changes.
func TestOtherItems(t *testing.T) {
	more := read(t, "fn more(v0: S9, v1: &mut S9) -> S9 { let v2 = more(v0, v1); v2 } struct S9 { f0: int, f1: Box<S9> } enum E9 { V0, V1(S9) }").Items
	scattered(t, 47, 300, 100, func(m *maker, p api.Program) {
		q := tree.Copy(p)
		for _, x := range more {
			if len(q.Items) < api.MaxItems {
				q.Items = slices.Insert(q.Items, m.below(len(q.Items)+1), x)
			}
		}
		if len(q.Items) < len(p.Items)+3 {
			return
		}
		if got, want := Check(q), Check(p); !slices.Equal(got, want) {
			t.Fatalf("%s\n%v, want %v", show.Program(q), got, want)
		}
		env := envOf(m.row(), m.row(), m.row())
		for range 20 {
			e := at(api.EUse+uint8(m.below(3)), pick(m, "v0", "v1.*", "v2.f0", "v0.*.f1"))
			if rowOf(p, env, e) != rowOf(q, env, e) {
				t.Fatalf("%+v", e)
			}
		}
	})
}

// changed is the program with other names for all variables, and other places.
func changed(p api.Program, name func(string) string, place func(int) int) api.Program {
	q := tree.Copy(p)
	for i := range q.Items {
		if q.Items[i].Kind == api.IFn {
			for k := range q.Items[i].Fields {
				q.Items[i].Fields[k].Name = name(q.Items[i].Fields[k].Name)
			}
		}
	}
	var each func(v reflect.Value)
	each = func(v reflect.Value) {
		switch x := v.Addr().Interface().(type) {
		case *api.Item:
			x.At = place(x.At)
		case *api.Expr:
			x.At, x.Place.Name = place(x.At), name(x.Place.Name)
		case *api.Arm:
			x.Name = name(x.Name)
		case *api.Stmt:
			x.At, x.Place.Name, x.Second = place(x.At), name(x.Place.Name), name(x.Second)
			if x.Op != api.STake {
				x.Name = name(x.Name)
			}
			for k := range x.Names {
				x.Names[k] = name(x.Names[k])
			}
		}
		eachPart(v, each)
	}
	each(reflect.ValueOf(&q).Elem())
	return q
}

// P10.4: other names of variables, other places: only the faults' places change.
func TestOtherNamesAndPlaces(t *testing.T) {
	other := func(s string) string {
		if strings.HasPrefix(s, "v") {
			return "f" + s[1:]
		}
		return s
	}
	faults := 0
	for i, place := range []func(int) int{func(at int) int { return at }, func(at int) int { return 100000 - 3*at }, func(int) int { return 0 }} {
		scattered(t, dice(51+i), 150, 100, func(_ *maker, p api.Program) {
			q := changed(p, other, place)
			if tree.Same(p, q) || names.Check(q) != nil || tables.Check(q) != nil {
				t.Fatalf("%s\n%v", show.Program(q), names.Check(q))
			}
			want := Check(p)
			for k := range want {
				want[k].At = place(want[k].At)
			}
			if got := Check(q); !slices.Equal(got, want) {
				t.Fatalf("%s\n%v, want %v", show.Program(q), got, want)
			}
			faults += len(want)
		})
	}
	if faults < 100 {
		t.Error(faults)
	}
}

// P10.6: a statement in a block of its own is as right as it was; nor does it change what is wrong.
func TestInBlocks(t *testing.T) {
	right, wrong := 0, 0
	for i, slips := range []int{0, 100} {
		scattered(t, dice(61+i), 120, slips, func(_ *maker, p api.Program) {
			want := Check(p)
			for i, x := range p.Items {
				for k, s := range x.Body {
					q := tree.Copy(p)
					q.Items[i].Body[k] = api.Stmt{Op: api.SBlock, Body: []api.Stmt{s}, At: 3}
					if names.Check(q) != nil {
						// What it makes is asked for behind it.
						continue
					}
					if got := Check(q); !slices.Equal(got, want) {
						t.Fatalf("%s\n%v, want %v", show.Program(q), got, want)
					}
					if len(want) == 0 {
						right++
					} else {
						wrong++
					}
				}
			}
		})
	}
	if right < 500 || wrong < 500 {
		t.Error(right, wrong)
	}
}
