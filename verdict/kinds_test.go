package verdict

import (
	"math"
	"slices"
	"testing"

	"weftway/api"
)

// kindsOf is Kinds in another way: again and again the least one above the last.
func kindsOf(l []api.Fault) []api.Errno {
	var kinds []api.Errno
	for {
		next, found := api.Errno(0), false
		for _, f := range l {
			above := len(kinds) == 0 || f.Err > kinds[len(kinds)-1]
			if above && (!found || f.Err < next) {
				next, found = f.Err, true
			}
		}
		if !found {
			return kinds
		}
		kinds = append(kinds, next)
	}
}

// rowsOf hands on all rows of so many faults, of these errors.
func rowsOf(n int, errs []api.Errno, ahead []api.Fault, each func(l []api.Fault)) {
	if n == 0 {
		each(ahead)
		return
	}
	for i, e := range errs {
		rowsOf(n-1, errs, append(slices.Clip(ahead), api.Fault{Err: e, At: (n * 7) % (i + 3)}), each)
	}
}

// P16.3: the errors rise, and each one is there once.
func TestKinds(t *testing.T) {
	for _, c := range []struct {
		errs, want []api.Errno
	}{
		{nil, nil},
		{[]api.Errno{api.ErrSend}, []api.Errno{api.ErrSend}},
		{[]api.Errno{api.ErrLoan, api.ErrName, api.ErrLoan}, []api.Errno{api.ErrName, api.ErrLoan}},
		{[]api.Errno{api.ErrMain, api.ErrMain, api.ErrMain}, []api.Errno{api.ErrMain}},
		{[]api.Errno{api.ErrAlias, api.ErrLoan, api.ErrUninit}, []api.Errno{api.ErrUninit, api.ErrLoan, api.ErrAlias}},
		{[]api.Errno{api.ErrFull, api.ErrName, api.ErrArg, api.ErrTable, api.ErrFull, api.ErrArg}, []api.Errno{api.ErrArg, api.ErrFull, api.ErrName, api.ErrTable}},
		{[]api.Errno{math.MaxInt, -1, math.MinInt, 999, -1}, []api.Errno{math.MinInt, -1, 999, math.MaxInt}},
	} {
		var l []api.Fault
		for i, e := range c.errs {
			l = append(l, api.Fault{Err: e, At: 5 - i})
		}
		if got := Kinds(l); !slices.Equal(got, c.want) {
			t.Errorf("%v: %v, want %v", c.errs, got, c.want)
		}
	}
	if got := Kinds([]api.Fault{}); len(got) > 0 {
		t.Error(got)
	}
}

// P16.3: all rows of a few errors, against a second judge.
func TestAllKinds(t *testing.T) {
	rows := 0
	for n := range 7 {
		rowsOf(n, []api.Errno{api.ErrLoan, api.ErrName, api.ErrSend, api.ErrArg}, nil, func(l []api.Fault) {
			rows++
			if got, want := Kinds(l), kindsOf(l); !slices.Equal(got, want) {
				t.Fatalf("%v: %v, want %v", l, got, want)
			}
		})
	}
	if rows != 5461 {
		t.Error(rows)
	}
}

// P16.3: long rows.
func TestManyKinds(t *testing.T) {
	d := dice(163)
	for range 200 {
		var l []api.Fault
		for range d.below(2000) {
			l = append(l, api.Fault{Err: api.Errno(d.below(40) * 5), At: d.below(4000)})
		}
		if got, want := Kinds(l), kindsOf(l); !slices.Equal(got, want) {
			t.Fatalf("%v, want %v", got, want)
		}
	}
	l := make([]api.Fault, 1000000)
	for i := range l {
		l[i] = api.Fault{Err: api.Errno(i % 3), At: i}
	}
	if got := Kinds(l); !slices.Equal(got, []api.Errno{0, 1, 2}) {
		t.Error(got)
	}
}

// P0.4: the row that is handed in stays as it is, the room behind it too; the answer is in memory of its own.
func TestKindsApart(t *testing.T) {
	room := []api.Fault{{Err: api.ErrSend, At: 1}, {Err: api.ErrName, At: 2}, {Err: api.ErrSend, At: 3}, {Err: api.ErrLoan, At: 4}, {}, {}}
	before := slices.Clone(room)
	want := []api.Errno{api.ErrName, api.ErrLoan, api.ErrSend}
	got := Kinds(room[:4])
	for i := range got[:cap(got)] {
		got[:cap(got)][i] = 99
	}
	if !slices.Equal(room, before) {
		t.Error(room)
	}
	if got := Kinds(room[:4]); !slices.Equal(got, want) {
		t.Error(got)
	}
}
