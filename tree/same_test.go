package tree

import (
	"reflect"
	"testing"

	"weftway/api"
)

// checkSpots asks, for each spot of the tree, that two that differ there alone are not the same, unless it is an At; in both orders.
func checkSpots[T any](t *testing.T, x T, same func(a, b T) bool) {
	t.Helper()
	other, line := apart(x), written(x)
	if !same(x, other) || !same(other, x) || !same(x, x) {
		t.Errorf("not the same as itself: %.300s", line)
	}
	for _, s := range spots(&other) {
		for _, v := range s.others() {
			s.with(v, func() bool {
				want := line == written(other)
				if want != s.isAt() {
					t.Errorf("%s says too little", s.name)
				}
				if same(x, other) != want || same(other, x) != want {
					t.Errorf("with %v at %s: %v", v, s.name, !want)
				}
				return true
			})
		}
	}
}

// P3.4: two that differ in one field alone.
func TestSameInEachField(t *testing.T) {
	checkSpots(t, full[api.Program](3), Same)
	checkSpots(t, full[api.Type](3), SameType)
	checkSpots(t, full[api.Expr](3), SameExpr)
	checkSpots(t, api.Program{}, Same)
	checkSpots(t, api.Type{}, SameType)
	checkSpots(t, api.Expr{}, SameExpr)
	for _, p := range kindPrograms() {
		checkSpots(t, p, Same)
	}
	for _, k := range typeKinds() {
		checkSpots(t, k.sample, SameType)
	}
	for _, k := range exprKinds() {
		checkSpots(t, k.sample, SameExpr)
	}
}

// P3.4: whatever the Ats, all of them at once.
func TestSameWhateverTheAts(t *testing.T) {
	p := full[api.Program](4)
	q := erased(p)
	if !Same(p, q) || !Same(q, p) || reflect.DeepEqual(p, q) {
		t.Error("programs")
	}
	a, b := ex(api.EAdd, number(1), ex(api.ENeg, number(2))), ex(api.EAdd, number(1), ex(api.ENeg, number(2)))
	a.At, a.Args[0].At, a.Args[1].At, a.Args[1].Args[0].At = 1, -2, 3, 4
	if !SameExpr(a, b) || !SameExpr(b, a) {
		t.Error("expressions")
	}
}

// P3.4: two sorts of nothing are the same; what stands in another order, or twice, isn't.
func TestSameLists(t *testing.T) {
	p := full[api.Program](4)
	q := apart(p)
	for _, s := range spots(&q) {
		if s.value.Kind() == reflect.Slice && s.value.Len() == 0 {
			s.value.Set(reflect.MakeSlice(s.value.Type(), 0, 2))
		}
	}
	if reflect.DeepEqual(p, q) || !Same(p, q) || !Same(q, p) {
		t.Error("nil and empty ones")
	}
	for _, s := range spots(&q) {
		if s.value.Kind() != reflect.Slice || s.value.Len() == 0 {
			continue
		}
		l := s.value
		turned := reflect.Append(reflect.MakeSlice(l.Type(), 0, 2), l.Index(1), l.Index(0))
		for _, v := range []reflect.Value{turned, reflect.Zero(l.Type()), reflect.MakeSlice(l.Type(), 2, 2), l.Slice(0, 1)} {
			if s.with(v, func() bool { return Same(p, q) || Same(q, p) }) {
				t.Errorf("the same with another %s", s.name)
			}
		}
	}
}

// P3.4: of programs that are unlike, none is the same as another.
func TestSameOfAllPairs(t *testing.T) {
	l := append(kindPrograms(), api.Program{}, everything(), items(api.Item{}), main(), items(main().Items[0], api.Item{}))
	for _, a := range l {
		for _, b := range l {
			if Same(a, b) != (written(a) == written(b)) {
				t.Errorf("%.300s and %.300s: %v", written(a), written(b), Same(a, b))
			}
		}
	}
	for _, a := range exprKinds() {
		for _, b := range exprKinds() {
			if SameExpr(a.sample, b.sample) != (a.op == b.op) {
				t.Error(a.op, b.op)
			}
		}
	}
	for _, a := range typeKinds() {
		for _, b := range typeKinds() {
			if SameType(a.sample, b.sample) != (a.kind == b.kind) {
				t.Error(a.kind, b.kind)
			}
		}
	}
}
