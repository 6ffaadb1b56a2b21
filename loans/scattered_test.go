package loans

import (
	"slices"
	"strconv"
	"strings"
	"testing"

	"weftway/api"
)

// dice throws the same numbers each time.
type dice uint64

func (d *dice) below(n int) int {
	x := *d
	x ^= x << 13
	x ^= x >> 7
	x ^= x << 17
	*d = x
	return int(x>>11) % n
}

// known are places of which some meet and some don't, as texts.
func known() []string {
	return []string{"x", "x.a", "x.a.b", "x.a.*", "x.b", "x.*", "x.*.a", "y", "y.a", "xx", "x.ab"}
}

// word is a thrown loan, as a text.
func (d *dice) word() string {
	every := known()
	return every[d.below(len(every))] + []string{":", "!", ":"}[d.below(3)] + strconv.Itoa(d.below(4))
}

// words are thrown loans, each once.
func (d *dice) words(most int) []string {
	var l []string
	for range d.below(most + 1) {
		if w := d.word(); !slices.Contains(l, w) {
			l = append(l, w)
		}
	}
	return l
}

// read is the book of such texts.
func read(words []string) []Loan { return book(strings.Join(words, " ")) }

// hit is the second judge of one loan: by their texts alone one place meets another one if with a dot behind each it is a beginning.
func hit(word, place string, use uint8) bool {
	i := strings.IndexAny(word, ":!")
	lent, used := word[:i]+".", place+"."
	return (strings.HasPrefix(lent, used) || strings.HasPrefix(used, lent)) && (word[i] == '!' || use > UShare)
}

// sorted are texts in their order.
func sorted(words []string) []string {
	l := slices.Clone(words)
	slices.Sort(l)
	return l
}

// checkBooks holds what is answered of two books against what is done to their texts.
func checkBooks(t *testing.T, a, b []string) {
	both := slices.Clone(a)
	for _, w := range b {
		if !slices.Contains(both, w) {
			both = append(both, w)
		}
	}
	if got := told(Union(read(a), read(b))); got != strings.Join(both, " ") {
		t.Fatalf("%q, %q: %s", a, b, got)
	}
	if got, want := Same(read(a), read(b)), slices.Equal(sorted(a), sorted(b)); got != want {
		t.Fatalf("%q, %q: same %v", a, b, got)
	}
	for depth := range 6 {
		left := slices.DeleteFunc(slices.Clone(a), func(w string) bool { return int(w[len(w)-1]-'0') >= depth })
		if got := told(End(read(a), depth)); got != strings.Join(left, " ") {
			t.Fatalf("%q, %d: %s", a, depth, got)
		}
	}
	for _, name := range []string{"x", "y", "xx", "a", ""} {
		named := slices.DeleteFunc(slices.Clone(a), func(w string) bool { return w[:strings.IndexAny(w, ".:!")] != name })
		if got := told(Of(read(a), name)); got != strings.Join(named, " ") {
			t.Fatalf("%q, %s: %s", a, name, got)
		}
	}
}

// P13.1 to P13.3: of scattered books the answers are those of the second judge, who reads their texts.
func TestScattered(t *testing.T) {
	d := dice(1341)
	same, refused, allowed := 0, 0, 0
	for range 4000 {
		a, b := d.words(6), d.words(6)
		if d.below(3) == 0 {
			half := len(a) / 2
			b = slices.Concat(a[half:], a[:half])
			same++
		}
		checkBooks(t, a, b)
		w := d.word()
		checkBooks(t, a, []string{w})
		if added := Add(read(a), book(w)[0]); told(added) != told(Union(read(a), book(w))) {
			t.Fatalf("%q, %s: %s", a, w, told(added))
		}
		for _, place := range known() {
			for _, use := range uses() {
				want := api.OK
				if slices.ContainsFunc(a, func(w string) bool { return hit(w, place, use) }) {
					want = api.ErrLoan
					refused++
				} else {
					allowed++
				}
				if got := May(read(a), at(place), use); got != want {
					t.Fatalf("%q, %s, %d: %d, want %d", a, place, use, got, want)
				}
			}
		}
	}
	if same < 1000 || refused < 50000 || allowed < 50000 {
		t.Error(same, refused, allowed)
	}
}

// part are those of the loans whose bits a number has.
func part(l []Loan, bits int) []Loan {
	var some []Loan
	for i, x := range l {
		if bits>>i&1 == 1 {
			some = append(some, x)
		}
	}
	return some
}

// P13.4: what a book allows each part of it allows; what conflicts with a book conflicts with one of its loans.
func TestMoreIsLess(t *testing.T) {
	d := dice(77)
	for range 150 {
		l := read(d.words(6))
		for _, place := range known() {
			for _, use := range uses() {
				whole := May(l, at(place), use)
				alone := func(x Loan) bool { return May([]Loan{x}, at(place), use) == api.ErrLoan }
				if (whole == api.ErrLoan) != slices.ContainsFunc(l, alone) {
					t.Fatalf("%s; %s, %d: %d, by its loans not", told(l), place, use, whole)
				}
				for bits := range 1 << len(l) {
					if whole == api.OK && May(part(l, bits), at(place), use) != api.OK {
						t.Fatalf("%s; %s, %d: but not by %s", told(l), place, use, told(part(l, bits)))
					}
				}
			}
		}
	}
}

// P13.5: if a place may be lent alone, all uses of it may be, and of all places that it begins.
func TestLentAlone(t *testing.T) {
	d := dice(505)
	free := 0
	for range 1500 {
		l := read(d.words(4))
		for _, place := range known() {
			if May(l, at(place), UAlone) != api.OK {
				continue
			}
			free++
			for _, longer := range append(known(), place+".c", place+".*.d") {
				for _, use := range uses() {
					if strings.HasPrefix(longer+".", place+".") && May(l, at(longer), use) != api.OK {
						t.Fatalf("%s: %s may be lent alone, %s not used, %d", told(l), place, longer, use)
					}
				}
			}
		}
	}
	if free < 5000 {
		t.Error(free)
	}
}

// P13.5: a book to which each loan was added when it might be has, of any two that meet, none that is alone.
func TestGrown(t *testing.T) {
	d := dice(9)
	meet, turned := 0, 0
	for range 1500 {
		var l []Loan
		for range 12 {
			w := d.word()
			x, use := book(w)[0], UShare
			if x.Alone {
				use = UAlone
			}
			if May(l, x.Place, use) != api.OK {
				turned++
				continue
			}
			l = Add(l, x)
		}
		for i, x := range l {
			for _, y := range l[:i] {
				if !hit(told([]Loan{y}), strings.Join(slices.Concat([]string{x.Place.Name}, x.Place.Path), "."), UMove) {
					continue
				}
				meet++
				if x.Alone || y.Alone {
					t.Fatalf("%s: %s, %s", told(l), told([]Loan{y}), told([]Loan{x}))
				}
			}
		}
	}
	if meet < 2000 || turned < 5000 {
		t.Error(meet, turned)
	}
}

// each are all books of some loans of those that are handed in, in their order and the other way about.
func each(text string) [][]Loan {
	all := book(text)
	var l [][]Loan
	for bits := range 1 << len(all) {
		some := part(all, bits)
		back := slices.Clone(some)
		slices.Reverse(back)
		l = append(l, some, back)
	}
	return l
}

// P13.2, P13.3: of both books one has the loans of either, whichever comes first and however three are put together; ended, and of one variable, they are as the parts of both are.
func TestLaws(t *testing.T) {
	l := each("x:1 x!1 x.a:2 y:1")
	for _, a := range l {
		if !Same(a, a) || told(Union(a, a)) != told(a) || told(Union(a, nil)) != told(a) || told(Union(nil, a)) != told(a) {
			t.Error(told(a))
		}
		for _, b := range l {
			both := Union(a, b)
			if !Same(both, Union(b, a)) || told(both[:len(a)]) != told(a) || told(Union(both, b)) != told(both) || Same(a, b) != Same(b, a) {
				t.Errorf("%s | %s: %s", told(a), told(b), told(both))
			}
			if told(End(both, 2)) != told(Union(End(a, 2), End(b, 2))) || told(Of(both, "x")) != told(Union(Of(a, "x"), Of(b, "x"))) {
				t.Errorf("%s | %s: of parts", told(a), told(b))
			}
			one := slices.Clone(a)
			for _, x := range b {
				one = Add(one, x)
			}
			if told(one) != told(both) {
				t.Errorf("%s | %s: %s one by one", told(a), told(b), told(one))
			}
			for _, c := range l {
				if told(Union(both, c)) != told(Union(a, Union(b, c))) {
					t.Errorf("%s | %s | %s", told(a), told(b), told(c))
				}
			}
		}
	}
}
