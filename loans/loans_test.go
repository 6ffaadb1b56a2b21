package loans

import (
	"slices"
	"strconv"
	"strings"
	"testing"

	"weftway/api"
)

// at is the place of a text: the variable, then of each step a dot and the step.
func at(text string) api.Place {
	parts := strings.Split(text, ".")
	return api.Place{Name: parts[0], Path: parts[1:]}
}

// book are the loans of a text: a place, a colon if it is lent shared, a mark of exclamation if alone, and till when.
func book(text string) []Loan {
	var l []Loan
	for _, word := range strings.Fields(text) {
		i := strings.IndexAny(word, ":!")
		till, err := strconv.Atoi(word[i+1:])
		if err != nil {
			panic(err)
		}
		l = append(l, Loan{Place: at(word[:i]), Alone: word[i] == '!', Till: till})
	}
	return l
}

// told is how the tests write loans, as book reads them.
func told(l []Loan) string {
	var words []string
	for _, x := range l {
		sign := ":"
		if x.Alone {
			sign = "!"
		}
		words = append(words, strings.Join(slices.Concat([]string{x.Place.Name}, x.Place.Path), ".")+sign+strconv.Itoa(x.Till))
	}
	return strings.Join(words, " ")
}

// halves are the books on either side of a bar.
func halves(row string) (a, b []Loan) {
	first, second, _ := strings.Cut(row, "|")
	return book(first), book(second)
}

// uses are all there are, by their numbers.
func uses() []uint8 { return []uint8{1, 2, 3, 4, 5, 6} }

// The uses have the chapter's numbers.
func TestUses(t *testing.T) {
	if got := []uint8{URead, UShare, UAlone, UMove, UWrite, UDrop}; !slices.Equal(got, uses()) {
		t.Error(got)
	}
}

// The chapter's examples.
func TestExamples(t *testing.T) {
	l := book("x.a:2 y!1")
	for _, c := range []struct {
		place string
		use   uint8
		want  api.Errno
	}{
		{"x.a", URead, api.OK}, {"x", UMove, api.ErrLoan}, {"x.b", UWrite, api.OK}, {"x.a.b", UAlone, api.ErrLoan},
		{"y.a", URead, api.ErrLoan}, {"y", UShare, api.ErrLoan}, {"z", UDrop, api.OK}, {"x", 0, api.ErrArg},
	} {
		if got := May(l, at(c.place), c.use); got != c.want {
			t.Errorf("%s %d: %d, want %d", c.place, c.use, got, c.want)
		}
	}
	if a, b, c := told(End(l, 2)), told(End(l, 1)), told(Of(l, "y")); a != "y!1" || b != "" || c != "y!1" {
		t.Error(a, b, c)
	}
}

// P13.1: each row is a place that is lent, one that is used, and whether they meet. If they do, no use may be of what is lent alone, of what is lent shared it may be read and lent shared.
func TestMay(t *testing.T) {
	for row, meets := range map[string]bool{
		"x x": true, "x x.a": true, "x.a x": true, "x.a x.a": true, "x x.*": true, "x.* x": true, "x x.a.*.b": true, "x.a.*.b x": true, "x.a.b x.a": true, "x.a x.a.b": true, "x.*.a x.*.a": true,
		"x y": false, "x.a x.b": false, "x.b x.a": false, "x.a y.a": false, "x y.a": false, "x.* x.a": false, "x.a.b x.a.c": false, "x.a.b x.b": false, "x xx": false, "xx x": false, "x.a x.ab": false, "x.ab x.a.b": false, "x X": false,
	} {
		lent, used, _ := strings.Cut(row, " ")
		for _, use := range uses() {
			shared, alone := api.OK, api.OK
			if meets {
				alone = api.ErrLoan
			}
			if meets && use != URead && use != UShare {
				shared = api.ErrLoan
			}
			for _, till := range []string{"0", "1", "40"} {
				if got := May(book(lent+":"+till), at(used), use); got != shared {
					t.Errorf("%s shared, use %d: %d, want %d", row, use, got, shared)
				}
				if got := May(book(lent+"!"+till), at(used), use); got != alone {
					t.Errorf("%s alone, use %d: %d, want %d", row, use, got, alone)
				}
			}
		}
	}
}

// P13.1: of several loans each counts, wherever it stands; what nothing is lent of may be used as one likes.
func TestMayOfSeveral(t *testing.T) {
	for _, c := range []struct{ book, place, want string }{
		{"", "x", "......"}, {"x:1", "x", "..LLLL"}, {"x!1", "x", "LLLLLL"},
		{"x:1 x:2 x.a:0", "x", "..LLLL"}, {"y!1 x:1 z!1", "x", "..LLLL"}, {"y:1 z!1 w.x!1", "x", "......"},
		{"x:1 y:1 x.a!2", "x", "LLLLLL"}, {"x.a!2 y:1 x:1", "x", "LLLLLL"}, {"y:1 x.a!2 x:1", "x", "LLLLLL"},
		{"x:1 y:1 x.a!2", "x.b", "..LLLL"}, {"x.a!2 y:1 x:1", "x.a.b", "LLLLLL"}, {"x.a!2 x.b:1", "x.b", "..LLLL"}, {"x.a!2 x.b:1", "x.c", "......"},
		{"a!1 b!1 c!1 d:1", "d.*", "..LLLL"}, {"d!1 c:1 b:1 a:1", "d.*", "LLLLLL"},
	} {
		got := ""
		for _, use := range uses() {
			got += map[api.Errno]string{api.OK: ".", api.ErrLoan: "L"}[May(book(c.book), at(c.place), use)]
		}
		if got != c.want {
			t.Errorf("%s; %s: %s, want %s", c.book, c.place, got, c.want)
		}
	}
}

// P13.1, P0.2: of what is no use ErrArg, ahead of ErrLoan.
func TestNoUse(t *testing.T) {
	for use := range 256 {
		if use >= 1 && use <= 6 {
			continue
		}
		for _, l := range []string{"", "x:1", "x!1", "y:1"} {
			if got := May(book(l), at("x"), uint8(use)); got != api.ErrArg {
				t.Errorf("%s, use %d: %d", l, use, got)
			}
		}
	}
}

// P13.2: the loan comes behind the others, unless the book has just that one: the same place, lent the same way, till the same depth.
func TestAdd(t *testing.T) {
	for _, c := range []struct{ book, loan, want string }{
		{"", "x:1", "x:1"}, {"", "x.a!0", "x.a!0"}, {"x:1", "x:1", "x:1"}, {"x!1", "x!1", "x!1"}, {"x.a.*!3", "x.a.*!3", "x.a.*!3"},
		{"x:1", "x:2", "x:1 x:2"}, {"x:2", "x:1", "x:2 x:1"}, {"x:1", "x!1", "x:1 x!1"}, {"x!1", "x:1", "x!1 x:1"}, {"x:1", "y:1", "x:1 y:1"}, {"y:1", "x:1", "y:1 x:1"},
		{"x:1", "x.a:1", "x:1 x.a:1"}, {"x.a:1", "x:1", "x.a:1 x:1"}, {"x.a:1", "x.b:1", "x.a:1 x.b:1"}, {"x.a:1", "x.*:1", "x.a:1 x.*:1"}, {"x.a:1", "y.a:1", "x.a:1 y.a:1"}, {"x.a.b:1", "x.a:1", "x.a.b:1 x.a:1"}, {"x:1", "xx:1", "x:1 xx:1"},
		{"z:1 y:2 x!3", "y:2", "z:1 y:2 x!3"}, {"z:1 y:2 x!3", "z:1", "z:1 y:2 x!3"}, {"z:1 y:2 x!3", "x!3", "z:1 y:2 x!3"}, {"z:1 y:2 x!3", "x:3", "z:1 y:2 x!3 x:3"}, {"z:1 y:2 x!3", "a:0", "z:1 y:2 x!3 a:0"},
		{"x:1", "x:11", "x:1 x:11"}, {"x1:1", "x:11", "x1:1 x:11"},
	} {
		if got := told(Add(book(c.book), book(c.loan)[0])); got != c.want {
			t.Errorf("%s; %s: %s, want %s", c.book, c.loan, got, c.want)
		}
	}
}

// P13.2: what holds till that depth, or a greater one, has ended; the others stay in their order.
func TestEnd(t *testing.T) {
	for _, c := range []struct {
		book  string
		depth int
		want  string
	}{
		{"", 0, ""}, {"", 5, ""}, {"x:0", 0, ""}, {"x:0", 1, "x:0"}, {"x!1", 0, ""}, {"x!1", 1, ""}, {"x!1", 2, "x!1"}, {"x!1", 40, "x!1"},
		{"x:2 y!1", 3, "x:2 y!1"}, {"x:2 y!1", 2, "y!1"}, {"x:2 y!1", 1, ""}, {"x:2 y!1", 0, ""},
		{"d:3 a:0 c:2 b:1 e:4", 5, "d:3 a:0 c:2 b:1 e:4"}, {"d:3 a:0 c:2 b:1 e:4", 4, "d:3 a:0 c:2 b:1"}, {"d:3 a:0 c:2 b:1 e:4", 3, "a:0 c:2 b:1"}, {"d:3 a:0 c:2 b:1 e:4", 2, "a:0 b:1"}, {"d:3 a:0 c:2 b:1 e:4", 1, "a:0"}, {"d:3 a:0 c:2 b:1 e:4", 0, ""},
		{"x:2 x:1 x!2 x!1", 2, "x:1 x!1"}, {"z:1 x.a:1 y.*.b!1", 2, "z:1 x.a:1 y.*.b!1"},
	} {
		if got := told(End(book(c.book), c.depth)); got != c.want {
			t.Errorf("%s; %d: %s, want %s", c.book, c.depth, got, c.want)
		}
	}
}

// P13.2: each row is two books, and of both, the first one's loans ahead, each once.
func TestUnion(t *testing.T) {
	for row, want := range map[string]string{
		"|": "", "x:1|": "x:1", "|x:1": "x:1", "x:1|x:1": "x:1", "x:1|y:1": "x:1 y:1", "y:1|x:1": "y:1 x:1", "x:1|x!1": "x:1 x!1", "x!1|x:1": "x!1 x:1", "x:1|x:2": "x:1 x:2", "x:2|x:1": "x:2 x:1",
		"c:1 a:1|b:1 a:1": "c:1 a:1 b:1", "b:1 a:1|c:1 a:1": "b:1 a:1 c:1", "a:1 b:2 c!3|c!3 b:2 a:1": "a:1 b:2 c!3", "c!3 b:2 a:1|a:1 b:2 c!3": "c!3 b:2 a:1", "b:1|d:1 b:1 a:1 c:1": "b:1 d:1 a:1 c:1", "d:1 b:1 a:1 c:1|b:1": "d:1 b:1 a:1 c:1",
		"x.a:1 x!2|x:2 x.a:1 x.b:1 x!2": "x.a:1 x!2 x:2 x.b:1", "x:1|x.a:1 x.*:1": "x:1 x.a:1 x.*:1", "x.a.b:1|x.a:1 x.a.b:1": "x.a.b:1 x.a:1",
	} {
		a, b := halves(row)
		if got := told(Union(a, b)); got != want {
			t.Errorf("%s: %s, want %s", row, got, want)
		}
	}
}

// P13.3: each row is two books, and whether they have the same loans.
func TestSame(t *testing.T) {
	for row, want := range map[string]bool{
		"|": true, "x:1|x:1": true, "x!0|x!0": true, "x.a.*:1|x.a.*:1": true, "x:1 y:1|y:1 x:1": true, "a:1 b!2 c:3|c:3 a:1 b!2": true, "x:1 x:2 x!1|x!1 x:2 x:1": true, "x.a:1 x:1|x:1 x.a:1": true,
		"x:1|": false, "x:1|x!1": false, "x:1|x:2": false, "x:1|y:1": false, "x:1|x.a:1": false, "x.a:1|x.b:1": false, "x.a:1|x.*:1": false, "x.a:1|y.a:1": false, "x.a.b:1|x.a:1": false,
		"x:1|x:1 y:1": false, "y:1|x:1 y:1": false, "x:1 y:2|x:2 y:1": false, "x:1 y!1|x!1 y:1": false, "x:1 y:1|x:1 z:1": false, "a:1 b:1 c:1|c:1 a:1": false, "x.a:1 x.b:1|x.a:1 x.c:1": false,
	} {
		a, b := halves(row)
		if there, back := Same(a, b), Same(b, a); there != want || back != want {
			t.Errorf("%s: %v, %v, want %v", row, there, back, want)
		}
	}
}

// P13.3: the loans of places of that variable, be it lent whole or in part, in their order.
func TestOf(t *testing.T) {
	for _, c := range []struct{ book, name, want string }{
		{"", "x", ""}, {"x:1", "x", "x:1"}, {"x:1", "y", ""}, {"x.a!1", "x", "x.a!1"}, {"x.a!1", "a", ""}, {"y.x:1", "x", ""}, {"xx:1", "x", ""}, {"x:1", "xx", ""}, {"X:1", "x", ""},
		{"x.b:2 y:1 x!3 z.x:1 x.a:0 y.x:2", "x", "x.b:2 x!3 x.a:0"}, {"x.b:2 y:1 x!3 z.x:1 x.a:0 y.x:2", "y", "y:1 y.x:2"}, {"x.b:2 y:1 x!3 z.x:1 x.a:0 y.x:2", "z", "z.x:1"}, {"x.b:2 y:1 x!3 z.x:1 x.a:0 y.x:2", "a", ""},
		{"x:2 x:1 x!2 x!1", "x", "x:2 x:1 x!2 x!1"}, {"x.*:1 x.*.*:1 y:1", "x", "x.*:1 x.*.*:1"}, {"x.a:1", "x.a", ""}, {"x:1", "", ""},
	} {
		if got := told(Of(book(c.book), c.name)); got != c.want {
			t.Errorf("%s; %s: %s, want %s", c.book, c.name, got, c.want)
		}
	}
}
