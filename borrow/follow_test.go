package borrow

import (
	"reflect"
	"slices"
	"strings"
	"testing"

	"weftway/api"
	"weftway/lex"
	"weftway/parse"
	"weftway/tree"
	"weftway/typing"
)

// moved is the program with other places.
func moved(p api.Program, place func(int) int) api.Program {
	q := tree.Copy(p)
	var each func(v reflect.Value)
	each = func(v reflect.Value) {
		switch x := v.Addr().Interface().(type) {
		case *api.Item:
			x.At = place(x.At)
		case *api.Expr:
			x.At = place(x.At)
		case *api.Stmt:
			x.At = place(x.At)
		}
		eachPart(v, each)
	}
	each(reflect.ValueOf(&q).Elem())
	return q
}

// P14.2: with other places the same faults are told, at these; with one place for all each kind that a body has once.
func TestOtherPlaces(t *testing.T) {
	faults := 0
	for i, place := range []func(int) int{func(at int) int { return 100000 - 3*at }, func(at int) int { return at*7919%10007 - 5000 }} {
		scattered(t, dice(51+i), 250, i == 0, func(text string, p api.Program) {
			want := Check(p)
			erased := Check(tree.Erase(p))
			for _, f := range want {
				if !slices.Contains(erased, api.Fault{Err: f.Err}) {
					t.Fatalf("%s\n%v without places, %v", text, erased, want)
				}
			}
			for _, f := range erased {
				if f.At != 0 || !slices.ContainsFunc(want, func(x api.Fault) bool { return x.Err == f.Err }) {
					t.Fatalf("%s\n%v without places, %v", text, erased, want)
				}
			}
			for k := range want {
				want[k].At = place(want[k].At)
			}
			if got := Check(moved(p, place)); !slices.Equal(got, want) {
				t.Fatalf("%s\n%v, want %v", text, got, want)
			}
			faults += len(want)
		})
	}
	if faults < 1000 {
		t.Error(faults)
	}
}

// P14.2: nor do blanks and remarks change more than where faults are.
func TestOtherBlanks(t *testing.T) {
	faults := 0
	d := dice(77)
	scattered(t, 53, 250, false, func(text string, p api.Program) {
		tokens, _, _ := lex.All(text)
		where := map[int]int{}
		var wide strings.Builder
		for _, token := range tokens {
			wide.WriteString(pick(&d, " ", " ", " ", "\n", "  "))
			where[token.At] = wide.Len()
			wide.WriteString(token.Text)
		}
		q, l := parse.Program(wide.String())
		if len(l) > 0 {
			return
		}
		want := Check(p)
		for k := range want {
			want[k].At = where[want[k].At]
		}
		if got := Check(q); !slices.Equal(got, want) {
			t.Fatalf("%s\n%v, want %v", wide.String(), got, want)
		}
		faults += len(want)
	})
	if faults < 500 {
		t.Error(faults)
	}
}

// walk goes one way through a body, for so many deeds; it answers how often something was used, and whether that was always set.
func (j *judge) walk(d *dice, from here, most int) (uses int, right bool) {
	at := 0
	for range most {
		if at == len(j.deeds) {
			break
		}
		x := j.deeds[at]
		switch {
		case x.ask != nil && x.ask(from) == api.ErrUninit:
			return uses, false
		case x.ask != nil:
			uses++
		case x.do != nil:
			from = x.do(from)
		}
		at++
		if x.moved {
			at = x.to[d.below(len(x.to))]
		}
	}
	return uses, true
}

// P14.3: whichever way one goes through a body without faults, what is used is set; there is a way through one with an ErrUninit on which it isn't.
func TestNeverTwice(t *testing.T) {
	d := dice(99)
	uses, found, wrong := 0, 0, 0
	for i, tame := range []bool{true, false} {
		scattered(t, dice(61+i), 400, tame, func(text string, p api.Program) {
			for _, x := range p.Items {
				if x.Kind != api.IFn {
					continue
				}
				j, from := judgeOf(p, x.Fields, x.Body, &x.Return)
				faults := faultsOf(p, x.Fields, x.Body, x.Return)
				isUninit := func(f api.Fault) bool { return f.Err == api.ErrUninit }
				unset := false
				for range 30 {
					n, right := j.walk(&d, from, 400)
					uses += n
					unset = unset || !right
				}
				switch {
				case unset && len(faults) == 0:
					t.Fatalf("%s\n%s uses what isn't set", text, x.Name)
				case slices.ContainsFunc(faults, isUninit):
					wrong++
					if unset {
						found++
					}
				}
			}
		})
	}
	if uses < 50000 || wrong < 200 || found < wrong/2 {
		t.Error(uses, found, wrong)
	}
}

// P14.4: a program without faults has none when the last statement of main is let go, again and again, where it is right so far.
func TestBeginnings(t *testing.T) {
	right, shorter := 0, 0
	scattered(t, 71, 700, true, func(text string, p api.Program) {
		if len(Check(p)) > 0 {
			return
		}
		right++
		i := slices.IndexFunc(p.Items, func(x api.Item) bool { return x.Name == "main" })
		for n := len(p.Items[i].Body) - 1; n >= 0; n-- {
			p.Items[i].Body, p.Items[i].Return = p.Items[i].Body[:n], api.Expr{Op: api.EInt, Int: int64(n)}
			if len(typing.Check(p)) > 0 {
				continue
			}
			shorter++
			if got := Check(p); got != nil {
				t.Fatalf("%s\n%d statements: %v", text, n, got)
			}
		}
	})
	if right < 100 || shorter < 500 {
		t.Error(right, shorter)
	}
}
