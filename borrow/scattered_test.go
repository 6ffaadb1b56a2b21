package borrow

import (
	"reflect"
	"slices"
	"testing"

	"weftway/api"
	"weftway/parse"
	"weftway/typing"
)

// scattered hands on so many texts of programs that are right so far.
func scattered(t *testing.T, seed dice, n int, tame bool, each func(text string, p api.Program)) {
	t.Helper()
	m := &scribe{dice: &seed, tame: tame}
	for n > 0 {
		text := m.program()
		p, l := parse.Program(text)
		if len(l) > 0 {
			if l[0].Err == api.ErrText {
				t.Fatalf("%s\n%v", text, l)
			}
			// It is too long.
			continue
		}
		if l := typing.Check(p); len(l) > 0 {
			t.Fatalf("%s\n%v", text, l)
		}
		each(text, p)
		n--
	}
}

// eachPart hands on what a struct or a list has.
func eachPart(v reflect.Value, each func(reflect.Value)) {
	switch v.Kind() {
	case reflect.Struct:
		for i := range v.NumField() {
			each(v.Field(i))
		}
	case reflect.Slice:
		for i := range v.Len() {
			each(v.Index(i))
		}
	}
}

// ops are the operators by their Ats, those of statements counted 100 more. Of an expression and a statement that have the same At it is the expression's, unless that has nothing to tell.
func ops(v reflect.Value, at map[int]int) {
	switch x := v.Interface().(type) {
	case api.Expr:
		if x.Place.Name != "" {
			at[x.At] = int(x.Op)
		}
	case api.Stmt:
		at[x.At] = 100 + int(x.Op)
	}
	eachPart(v, func(x reflect.Value) { ops(x, at) })
}

// P14.1: what the second judge says of scattered programs, in which everything that may be wrong is.
func TestScattered(t *testing.T) {
	type wrong struct {
		err api.Errno
		op  int
	}
	count := map[wrong]int{}
	right, several, skipped := 0, 0, 0
	for i, tame := range []bool{true, false, true} {
		scattered(t, dice(141+i), 700, tame, func(text string, p api.Program) {
			want, ok := judged(p)
			if !ok {
				skipped++
				return
			}
			got := Check(p)
			if !slices.Equal(got, want) {
				t.Fatalf("%s\n%v, want %v", text, got, want)
			}
			if len(got) == 0 {
				right++
			}
			if len(got) > 1 {
				several++
			}
			at := map[int]int{}
			ops(reflect.ValueOf(p), at)
			for _, f := range got {
				count[wrong{f.Err, at[f.At]}]++
			}
		})
	}
	if right < 250 || several < 1000 || skipped > 20 {
		t.Error(right, several, skipped)
	}
	for _, op := range []uint8{api.EUse, api.EShare, api.EMut, api.EGet, api.ESet, api.EClone, api.ELoad, api.EFetch, api.ESend, api.ERecv, 100 + api.SAssign, 100 + api.SDrop, 100 + api.SMatch, 100 + api.SLock} {
		for _, err := range []api.Errno{api.ErrUninit, api.ErrLoan} {
			if count[wrong{err, int(op)}] == 0 {
				t.Errorf("%d never told at %d", err, op)
			}
		}
	}
	for _, op := range []uint8{api.EUse, api.EShare, api.EMut} {
		if count[wrong{api.ErrAlias, int(op)}] < 5 {
			t.Errorf("alias told %d times at %d", count[wrong{api.ErrAlias, int(op)}], op)
		}
	}
}
