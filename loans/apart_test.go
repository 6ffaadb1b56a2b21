package loans

import (
	"slices"
	"strings"
	"testing"
	"unsafe"

	"weftway/api"
)

// roomy are the loans of a text, behind them spare room with something in it, and so it is behind each place's steps.
func roomy(text string) (l, whole []Loan) {
	for _, x := range book(text) {
		steps := len(x.Place.Path)
		x.Place.Path = append(slices.Clone(x.Place.Path), "behind", "beyond")[:steps]
		l = append(l, x)
	}
	whole = append(slices.Clone(l), book("behind:7 beyond!8")...)
	return whole[:len(l)], whole
}

// wide is what stands in a row of loans, and in the room behind each place's steps.
func wide(l []Loan) string {
	var words []string
	for _, x := range l {
		whole := x
		whole.Place.Path = x.Place.Path[:cap(x.Place.Path)]
		words = append(words, told([]Loan{x}), told([]Loan{whole}))
	}
	return strings.Join(words, " ")
}

// answers are what each call answers of two books.
func answers(a, b []Loan) [][]Loan {
	l := [][]Loan{Union(a, b), Union(b, a), Union(a, nil), Union(nil, b), Union(a, a), End(a, 2), End(b, 9), Of(a, "x"), Of(b, "x"), Add(a, Loan{Place: at("new.a"), Till: 3})}
	for _, x := range slices.Concat(a, b) {
		l = append(l, Add(a, x), Add(nil, x))
	}
	return l
}

// spoil changes all that can be reached from loans, the spare room too.
func spoil(l []Loan) {
	l = l[:cap(l)]
	for i := range l {
		path := l[i].Place.Path[:cap(l[i].Place.Path)]
		for k := range path {
			path[k] = "changed"
		}
		_ = append(path, "changed")
		l[i] = Loan{Place: at("changed.*"), Alone: true, Till: 99}
	}
	_ = append(l, Loan{})
}

// rows are two books each.
func rows() []string {
	return []string{"|", "x:1|", "|x.a!1", "x.a:1 y!2|y!2 x.*.b:3", "x.a.b:0 x.*!4|x.*!4 x.a.b:0", "y.a:1 x.b.c!1 z:2|x:1 w.*.*:2", "x:2 x:2 y.a:1|y.a:1 x:2 x:2"}
}

// P0.4: no list that is handed in is changed, the room behind it neither, by a call or by what is done to an answer later.
func TestApart(t *testing.T) {
	for _, row := range rows() {
		first, second, _ := strings.Cut(row, "|")
		a, wholeA := roomy(first)
		b, wholeB := roomy(second)
		wantA, wantB := wide(wholeA), wide(wholeB)
		Same(a, b)
		for _, use := range uses() {
			for _, x := range b {
				May(a, x.Place, use)
			}
		}
		for _, l := range answers(a, b) {
			spoil(l)
		}
		if wide(wholeA) != wantA || wide(wholeB) != wantB {
			t.Errorf("%s: %s, %s", row, wide(wholeA), wide(wholeB))
		}
	}
}

// P0.4: what was answered stays as it is when what was handed in changes, and when another answer, or another loan of one answer, does.
func TestNotKept(t *testing.T) {
	for _, row := range rows() {
		a, b := halves(row)
		var before []string
		for _, l := range answers(a, b) {
			before = append(before, told(l))
		}
		made := answers(a, b)
		spoil(a)
		spoil(b)
		for i, l := range made {
			if told(l) != before[i] {
				t.Errorf("%s, %d: %s, was %s", row, i, told(l), before[i])
			}
			for len(l) > 0 {
				rest := told(l[1:])
				spoil(l[:1:1])
				if l = l[1:]; told(l) != rest {
					t.Errorf("%s, %d: %s, was %s", row, i, told(l), rest)
				}
			}
		}
	}
}

// P0.4: a loan handed in twice stands in an answer with lists of its own each time.
func TestSharedSteps(t *testing.T) {
	x := book("x.a.b:1")[0]
	y := Loan{Place: x.Place, Alone: true, Till: 1}
	for i, l := range [][]Loan{Union([]Loan{x}, []Loan{y}), Add([]Loan{x}, y), Union([]Loan{x, y}, nil), End([]Loan{x, y}, 2), Of([]Loan{x, y}, "x")} {
		if told(l) != "x.a.b:1 x.a.b!1" {
			t.Fatal(i, told(l))
		}
		l[0].Place.Path[0] = "changed"
		if told(l[1:]) != "x.a.b!1" || told([]Loan{x}) != "x.a.b:1" {
			t.Error(i, told(l))
		}
	}
}

// P0.4: a text is one's own too.
func TestTextsApart(t *testing.T) {
	long := func() []Loan {
		return []Loan{{Place: api.Place{Name: strings.Clone("x"), Path: []string{strings.Clone("aa"), strings.Clone("*")}}, Till: 1}}
	}
	a, b := long(), long()
	b[0].Alone = true
	for i, l := range answers(a, b) {
		for _, from := range slices.Concat(a, b) {
			for _, x := range l {
				for _, name := range slices.Concat([]string{x.Place.Name}, x.Place.Path) {
					for _, other := range slices.Concat([]string{from.Place.Name}, from.Place.Path) {
						if unsafe.StringData(name) == unsafe.StringData(other) {
							t.Error(i, name, "is in the memory of what was handed in")
						}
					}
				}
			}
		}
	}
}
