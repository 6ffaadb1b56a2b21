package borrow

import (
	"reflect"
	"slices"
	"testing"

	"weftway/api"
	"weftway/tree"
)

// spoiled is a text of which each body has faults.
const spoiled = "fn f(a: Box<int>, b: &S) -> int { let r = &a; drop a; a.* + b.*.a } struct S { a: int, b: Box<int> } fn main() -> int { let x = box(1); let y = S { a = 1, b = x }; scope { spawn (p = &y, q = x) { drop q; q; scope { spawn (o = p) { drop o; o; } } } let S { c, d } = y; } while true { drop x; } chan<int>(1) as s, t; f(x, &y) }"

// P0.4: nothing that is handed in is changed, the room behind it neither.
func TestHandedIn(t *testing.T) {
	p := read(t, spoiled)
	roomy(reflect.ValueOf(&p).Elem())
	before := tree.Copy(p)
	want := Check(read(t, spoiled))
	if len(want) < 8 {
		t.Fatal(want)
	}
	for range 2 {
		if got := Check(p); !slices.Equal(got, want) {
			t.Errorf("%v, want %v", got, want)
		}
	}
	if !reflect.DeepEqual(p, before) {
		t.Error("changed")
	}
	untouched(t, reflect.ValueOf(p))
}

// roomy puts room behind each list, with zero values in it.
func roomy(v reflect.Value) {
	eachPart(v, roomy)
	if v.Kind() == reflect.Slice && v.Len() > 0 {
		longer := reflect.MakeSlice(v.Type(), v.Len()+3, v.Len()+3)
		reflect.Copy(longer, v)
		v.Set(longer.Slice(0, v.Len()))
	}
}

func untouched(t *testing.T, v reflect.Value) {
	t.Helper()
	if v.Kind() == reflect.Slice && v.Len() > 0 {
		for i := v.Len(); i < v.Cap(); i++ {
			if !v.Slice(0, v.Cap()).Index(i).IsZero() {
				t.Errorf("behind %v", v)
			}
		}
	}
	eachPart(v, func(x reflect.Value) { untouched(t, x) })
}

// P0.4: what is answered is new memory, the room behind it too.
func TestAnswerApart(t *testing.T) {
	p := read(t, spoiled)
	want := slices.Clone(Check(p))
	got, other := Check(p), Check(p)
	all := got[:cap(got)]
	for i := range all {
		all[i] = api.Fault{Err: 99, At: -1}
	}
	if !slices.Equal(other, want) || !slices.Equal(Check(p), want) {
		t.Error(other)
	}
}

// P0.4: lists that are nil and empty ones are the same.
func TestEmptyLists(t *testing.T) {
	for _, s := range []string{spoiled, "fn main() -> int { 0 }", in("if true { drop x; } scope { } while true { x; } x;")} {
		p := read(t, s)
		q := tree.Copy(p)
		var each func(v reflect.Value)
		each = func(v reflect.Value) {
			if v.Kind() == reflect.Slice && v.IsNil() {
				v.Set(reflect.MakeSlice(v.Type(), 0, 2))
			}
			eachPart(v, each)
		}
		each(reflect.ValueOf(&q).Elem())
		if got, want := Check(q), Check(p); !slices.Equal(got, want) {
			t.Errorf("%v, want %v", got, want)
		}
	}
}

// P14.1: a list of statements that stands in two places is two blocks: what holds in one says nothing of the other one.
func TestSharedStatements(t *testing.T) {
	p := read(t, "fn main() -> int { let x = box(1); if true { x = box(2); while true { x.* = 1; drop x; } } else { } 0 }")
	q := read(t, "fn main() -> int { let x = box(1); while true { x.* = 1; x = box(2); } drop x; x = box(3); while true { x.* = 1; x = box(2); } 0 }")
	loop := q.Items[0].Body[1]
	if got := Check(p); len(got) != 2 {
		t.Error(got)
	}
	if got := Check(q); got != nil {
		t.Error(got)
	}
	q.Items[0].Body = []api.Stmt{q.Items[0].Body[0], loop, q.Items[0].Body[2], loop, q.Items[0].Body[3], loop}
	if got := Check(q); len(got) != 1 || got[0].Err != api.ErrUninit {
		t.Error(got)
	}
	q.Items[0].Body = []api.Stmt{q.Items[0].Body[0], {Op: api.SIf, Exprs: loop.Exprs, Body: []api.Stmt{loop}, Else: []api.Stmt{q.Items[0].Body[2], q.Items[0].Body[4], loop}}, loop}
	if got := Check(q); got != nil {
		t.Error(got)
	}
	lent := read(t, "fn main() -> int { let x = box(1); while true { x = box(2); } scope { spawn (p = &x) { } } while true { x = box(2); } 0 }")
	l := lent.Items[0].Body
	lent.Items[0].Body = []api.Stmt{l[0], {Op: api.SScope, Body: []api.Stmt{l[1], l[2].Body[0], l[1]}}, l[1]}
	if got := Check(lent); !slices.Equal(got, []api.Fault{{Err: api.ErrLoan, At: l[1].Body[0].At}}) {
		t.Error(got)
	}
	lent.Items[0].Body[1].Body = []api.Stmt{l[1], l[1], l[2].Body[0]}
	if got := Check(lent); got != nil {
		t.Error(got)
	}
}
