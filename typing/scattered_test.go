package typing

import (
	"reflect"
	"slices"
	"testing"

	"weftway/api"
	"weftway/names"
	"weftway/show"
	"weftway/tables"
	"weftway/tree"
)

// scattered hands on so many programs whose names and tables are right.
func scattered(t *testing.T, seed dice, n, wrong int, each func(m *maker, p api.Program)) {
	t.Helper()
	m := &maker{dice: &seed, wrong: wrong}
	for range n {
		p := m.program()
		for m.stuck && wrong == 0 {
			p = m.program()
		}
		if !tree.Whole(p) {
			continue
		}
		if l := names.Check(p); len(l) > 0 {
			t.Fatalf("%s\n%v", show.Program(p), l)
		}
		if l := tables.Check(p); len(l) > 0 {
			t.Fatalf("%s\n%v", show.Program(p), l)
		}
		each(m, p)
	}
}

// tally counts each operator of the expressions, and of the statements by what is 100 more.
func tally(v reflect.Value, count map[int]int) {
	switch x := v.Interface().(type) {
	case api.Expr:
		count[int(x.Op)]++
	case api.Stmt:
		count[100+int(x.Op)]++
	}
	eachPart(v, func(x reflect.Value) { tally(x, count) })
}

// eachPart hands on what a struct or a list has.
func eachPart(v reflect.Value, each func(reflect.Value)) {
	switch v.Kind() {
	case reflect.Struct:
		for i := range v.NumField() {
			each(v.Field(i))
		}
	case reflect.Slice:
		for i := range v.Len() {
			each(v.Index(i))
		}
	}
}

// opAt is the operator, counted as above, of what has that At.
func opAt(v reflect.Value, at int) int {
	switch x := v.Interface().(type) {
	case api.Expr:
		if x.At == at {
			return int(x.Op)
		}
	case api.Stmt:
		if x.At == at {
			return 100 + int(x.Op)
		}
	}
	found := 0
	eachPart(v, func(x reflect.Value) { found = max(found, opAt(x, at)) })
	return found
}

// P10.1: what the second judge says of scattered programs.
func TestScattered(t *testing.T) {
	kinds, ops := map[api.Errno]int{}, map[int]int{}
	right, several := 0, 0
	for i, wrong := range []int{12, 40, 120, 1000} {
		scattered(t, dice(3+i), 300, wrong, func(_ *maker, p api.Program) {
			got := Check(p)
			if want := judged(p); !slices.Equal(got, want) {
				t.Fatalf("%s\n%v, want %v", show.Program(p), got, want)
			}
			if len(got) == 0 {
				right++
			}
			if len(got) > 1 {
				several++
			}
			for _, f := range got {
				kinds[f.Err]++
				ops[opAt(reflect.ValueOf(p), f.At)]++
			}
		})
	}
	if right < 250 || several < 250 || kinds[api.ErrType] < 1000 || kinds[api.ErrOwned] < 80 || kinds[api.ErrMove] < 50 {
		t.Error(right, several, kinds)
	}
	for op := int(api.EUse); op <= 100+int(api.SLock); op++ {
		asks := op <= int(api.ERecv) || op > 100 && op != 100+int(api.SLet) && op != 100+int(api.SDo) && op != 100+int(api.SDrop) && op != 100+int(api.SScope) && op != 100+int(api.SSpawn)
		if asks != (ops[op] > 0) {
			t.Errorf("%d faults at %d", ops[op], op)
		}
	}
}

// P10.1: none of programs that are right.
func TestRight(t *testing.T) {
	large, ops := 0, map[int]int{}
	scattered(t, 5, 500, 0, func(_ *maker, p api.Program) {
		if got := Check(p); got != nil || len(judged(p)) > 0 {
			t.Fatalf("%s\n%v, %v", show.Program(p), got, judged(p))
		}
		if tree.Size(p) > 60 {
			large++
		}
		tally(reflect.ValueOf(p), ops)
	})
	if large < 350 {
		t.Error(large)
	}
	for op := 1; op <= 100+int(api.SBlock); op++ {
		if (op <= int(api.ERecv) || op > 100) != (ops[op] > 10) {
			t.Errorf("%d of %d", ops[op], op)
		}
	}
}
