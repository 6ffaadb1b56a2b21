package sets

import (
	"slices"
	"strings"
	"testing"
	"unsafe"
)

// roomy are the names of a text, and behind them spare room with something in it.
func roomy(text string) (l, whole []string) {
	l = strings.Fields(text)
	whole = append(slices.Clone(l), "behind", "beyond")
	return whole[:len(l)], whole
}

// answers are what each call answers of two rows of names, be it of names that are none's, one's or both's.
func answers(a, b []string) [][]string {
	dead := State{Dead: true, Set: b}
	return [][]string{
		Of(a...), Of(b...), Union(a, b), Union(b, a), Union(a, nil), Union(nil, b), Union(a, a), Common(a, b), Common(b, a), Common(a, a), Minus(a, b), Minus(b, a), Minus(a, nil), Minus(b, nil),
		Join(State{Set: a}, State{Set: b}).Set, Join(State{Set: a}, dead).Set, Join(dead, State{Set: a}).Set, Join(dead, dead).Set,
	}
}

// P0.4: no list that is handed in is changed, the room behind it neither, by a call or by what is done to an answer later.
func TestApart(t *testing.T) {
	for _, row := range []string{"a c|b c", "c a|c b", "a b|", "|b a", "b a b|b a", "a|a", "c b a|b", "d c b a|a b c d"} {
		first, second := halves(row)
		a, wholeA := roomy(text(first))
		b, wholeB := roomy(text(second))
		Has(a, "b")
		Same(a, b)
		Within(a, b)
		Less(State{Set: a}, State{Set: b})
		made := answers(a, b)
		for i := range made {
			made[i] = made[i][:cap(made[i])]
			for k := range made[i] {
				made[i][k] = "changed"
			}
			_ = append(made[i], "changed")
		}
		if !slices.Equal(wholeA, append(first, "behind", "beyond")) || !slices.Equal(wholeB, append(second, "behind", "beyond")) {
			t.Error(row, wholeA, wholeB)
		}
	}
}

// P0.4: what was answered stays as it is when what was handed in changes, and when another answer does.
func TestNotKept(t *testing.T) {
	a, b := []string{"d", "a", "c"}, []string{"c", "b", "d"}
	var before []string
	for _, l := range answers(a, b) {
		before = append(before, text(l))
	}
	made := answers(a, b)
	clear(a)
	clear(b)
	for i := range made {
		if text(made[i]) != before[i] {
			t.Errorf("%d: %s, was %s", i, text(made[i]), before[i])
		}
		clear(made[i][:cap(made[i])])
	}
}

// P0.4: a text is one's own too.
func TestTextsApart(t *testing.T) {
	a, b := []string{strings.Clone("aa"), strings.Clone("cc")}, []string{strings.Clone("bb"), strings.Clone("cc")}
	for i, l := range answers(a, b) {
		for _, name := range l {
			for _, from := range slices.Concat(a, b) {
				if unsafe.StringData(name) == unsafe.StringData(from) {
					t.Error(i, name, "is in the memory of what was handed in")
				}
			}
		}
	}
}
