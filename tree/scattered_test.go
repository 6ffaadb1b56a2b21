package tree

import (
	"reflect"
	"testing"

	"weftway/api"
)

// dice throws the same numbers each time.
type dice uint64

func (d *dice) below(n int) int {
	x := *d
	x ^= x << 13
	x ^= x >> 7
	x ^= x << 17
	*d = x
	return int(x>>11) % n
}

func (d *dice) typed(levels int) api.Type {
	kinds := typeKinds()
	t := apart(kinds[d.below(len(kinds))].sample)
	for i := range t.Args {
		t.Args[i] = mk(api.TBool)
		if levels > 0 {
			t.Args[i] = d.typed(levels - 1)
		}
	}
	return t
}

// expr is a whole one, lent only if it may be.
func (d *dice) expr(levels int, lent bool) api.Expr {
	kinds := exprKinds()
	e := apart(kinds[d.below(len(kinds))].sample)
	if (e.Op == api.EShare || e.Op == api.EMut) && !lent {
		e.Op = api.EUse
	}
	e.At = d.below(9)
	for i := range e.Args {
		e.Args[i] = number(int64(d.below(4)))
		if levels > 0 {
			e.Args[i] = d.expr(levels-1, e.Op == api.ECall)
		}
	}
	return e
}

func (d *dice) body(levels int) []api.Stmt {
	var out []api.Stmt
	for range d.below(4) {
		if levels > 0 {
			out = append(out, d.statement(levels-1))
		}
	}
	return out
}

func (d *dice) statement(levels int) api.Stmt {
	kinds := stmtKinds()
	s := apart(kinds[d.below(len(kinds))].sample)
	s.At = d.below(9)
	for i := range s.Exprs {
		s.Exprs[i] = d.expr(levels, s.Op == api.SLet || s.Op == api.SSpawn)
	}
	if s.Body != nil {
		s.Body = d.body(levels)
	}
	if s.Else != nil {
		s.Else = d.body(levels)
	}
	for i := range s.Arms {
		s.Arms[i].Body = d.body(levels)
	}
	if s.Op == api.SChan {
		s.Type = d.typed(levels)
	}
	return s
}

func (d *dice) program() api.Program {
	var p api.Program
	for range d.below(4) {
		kinds := itemKinds()
		x := apart(kinds[d.below(len(kinds))].sample)
		x.At = d.below(9)
		for i := range x.Fields {
			x.Fields[i].Type = d.typed(3)
		}
		if x.Kind == api.IFn {
			x.Result, x.Return, x.Body = d.typed(2), d.expr(2, false), d.body(5)
		}
		p.Items = append(p.Items, x)
	}
	return p
}

// change puts something else somewhere in p.
func (d *dice) change(p *api.Program) {
	l := spots(p)
	s := l[d.below(len(l))]
	if others := s.others(); len(others) > 0 {
		s.value.Set(others[d.below(len(others))])
	}
}

func checkAgainstModel(t *testing.T, p api.Program) {
	t.Helper()
	if want := modelWhole(p); Whole(p) != want {
		t.Errorf("whole is %v: %.600s", !want, written(p))
	}
	if Depth(p) != modelDepth(p) || Size(p) != modelSize(p) {
		t.Errorf("%d deep, of size %d; want %d, %d: %.600s", Depth(p), Size(p), modelDepth(p), modelSize(p), written(p))
	}
}

// P3.1 to P3.5: programs that are whole, and such with up to three changes, held against the second judge.
func TestScattered(t *testing.T) {
	d := dice(7)
	whole, broken := 0, 0
	for range 3000 {
		p := d.program()
		if !Whole(p) {
			t.Fatalf("not whole: %.600s", written(p))
		}
		checkAgainstModel(t, p)
		q := apart(p)
		for range 1 + d.below(3) {
			d.change(&q)
		}
		checkAgainstModel(t, q)
		if want := written(p) == written(q); Same(p, q) != want || Same(q, p) != want {
			t.Errorf("the same is %v: %.600s and %.600s", !want, written(p), written(q))
		}
		if !reflect.DeepEqual(Copy(q), q) || !reflect.DeepEqual(Erase(q), erased(q)) || !Same(Copy(q), q) || !Same(q, Erase(q)) {
			t.Errorf("copied, erased: %.600s", written(q))
		}
		if Whole(q) {
			whole++
		} else {
			broken++
		}
		if Whole(Copy(q)) != Whole(q) || Whole(Erase(q)) != Whole(q) {
			t.Errorf("whole and not: %.600s", written(q))
		}
	}
	if whole < 100 || broken < 100 {
		t.Error(whole, broken)
	}
}

// P3.1: types and expressions by themselves.
func TestScatteredAlone(t *testing.T) {
	d := dice(11)
	for range 3000 {
		x, e := d.typed(d.below(50)), d.expr(4, true)
		l := append(spots(&x), spots(&e)...)
		for range d.below(3) {
			s := l[d.below(len(l))]
			if others := s.others(); len(others) > 0 {
				s.value.Set(others[d.below(len(others))])
			}
		}
		if want := modelWholeType(x); WholeType(x) != want {
			t.Errorf("whole is %v: %.600s", !want, written(x))
		}
		if want := modelWholeExpr(e); WholeExpr(e) != want {
			t.Errorf("whole is %v: %.600s", !want, written(e))
		}
	}
}
