package sets

import (
	"slices"
	"strconv"
	"testing"
)

// P0.4: lists that are nil and empty ones are the same.
func TestEmptyLists(t *testing.T) {
	one := []string{"a"}
	for _, a := range [][]string{nil, {}} {
		if Of(a...) != nil || Has(a, "") || Has(a, "a") || text(Union(a, one)) != "a" || text(Union(one, a)) != "a" || Common(a, one) != nil || Common(one, a) != nil || Minus(a, one) != nil || text(Minus(one, a)) != "a" {
			t.Error(a == nil)
		}
		if Same(a, one) || Same(one, a) || !Within(a, one) || Within(one, a) {
			t.Error(a == nil)
		}
		for _, b := range [][]string{nil, {}} {
			if !Same(a, b) || !Within(a, b) || Union(a, b) != nil || Common(a, b) != nil || Minus(a, b) != nil || !Less(State{Set: a}, State{Set: b}) {
				t.Error(a == nil, b == nil)
			}
			if s := Join(State{Set: a}, State{Dead: true, Set: b}); s.Dead || s.Set != nil {
				t.Error(s)
			}
		}
	}
}

// P12.1 to P12.3: texts that no program has as names, and the empty one, are names like others; they rise byte by byte.
func TestOddNames(t *testing.T) {
	odd := []string{"", "\x00", "\x00\x00", "\x00a", " ", "*", "a", "a\x00", "a ", "a b", "aa", "é", "\xff", "\xff\x00"}
	back := slices.Clone(odd)
	slices.Reverse(back)
	if !slices.Equal(Of(slices.Concat(back, odd)...), odd) || !Same(odd, back) || !Within(back, odd) {
		t.Errorf("%q", Of(back...))
	}
	for i, name := range odd {
		others := slices.Concat(odd[:i], odd[i+1:])
		one := []string{name}
		if !Has(back, name) || Has(others, name) || !slices.Equal(Minus(back, one), others) || !slices.Equal(Common(one, back), one) || Common(others, one) != nil || !slices.Equal(Union(one, others), odd) {
			t.Errorf("%q", name)
		}
		if !Within(one, odd) || Within(one, others) || Within(odd, others) || !Within(others, odd) || Same(odd, others) {
			t.Errorf("%q", name)
		}
	}
}

// P0.1: long rows are answered in a time that doesn't grow with their square.
func TestMany(t *testing.T) {
	var a, b []string
	for i := range 300000 {
		name := "x" + strconv.Itoa(i*7919%300000)
		if i%3 != 0 {
			a = append(a, name)
		}
		if i%3 != 1 {
			b = append(b, name, name)
		}
	}
	if len(Union(a, b)) != 300000 || len(Common(a, b)) != 100000 || len(Minus(a, b)) != 100000 || len(Minus(b, a)) != 100000 {
		t.Error("Union, Common, Minus")
	}
	if Same(a, b) || Within(a, b) || !Within(Common(a, b), b) || !Same(Union(a, b), Union(b, a)) {
		t.Error("Same, Within")
	}
	if joined := Join(State{Set: a}, State{Set: b}); len(joined.Set) != 100000 || !Less(joined, State{Set: b}) || Less(State{Set: b}, joined) {
		t.Error("Join, Less")
	}
}
