package parse

import (
	"reflect"
	"strings"
	"testing"

	"weftway/api"
	"weftway/lex"
	"weftway/show"
	"weftway/tree"
)

// fits says whether a text is short enough to be read.
func fits(s string) bool {
	_, _, e := lex.All(s)
	return e == api.OK
}

// normal is p with each empty list nil, as the package makes them.
func normal(v reflect.Value) {
	switch v.Kind() {
	case reflect.Struct:
		for i := range v.NumField() {
			normal(v.Field(i))
		}
	case reflect.Slice:
		if v.Len() == 0 {
			v.SetZero()
		}
		for i := range v.Len() {
			normal(v.Index(i))
		}
	}
}

// check reads s, and asks for just that program, Ats and all.
func check(t *testing.T, s string, want api.Program) {
	t.Helper()
	p, l := Program(s)
	if len(l) != 0 {
		t.Fatalf("%q: %v", s, l)
	}
	normal(reflect.ValueOf(&p).Elem())
	normal(reflect.ValueOf(&want).Elem())
	if !reflect.DeepEqual(p, want) {
		t.Fatalf("%q\n%v\nwant\n%v", s, p, want)
	}
}

// P5.1, P5.3, P5.4: whatever stands between, noughts and parentheses, the program is the same, and each At where it must be.
func TestNoise(t *testing.T) {
	d := dice(5)
	long := 0
	for i := range 3000 {
		p := d.program()
		s := written(&d, p, 2+i%5)
		if !fits(s) {
			continue
		}
		check(t, s, p)
		if len(s) > 1000 {
			long++
		}
	}
	if long < 300 {
		t.Error("so many were long:", long)
	}
}

// P5.2: a whole program is read from its text, and its text from what is read.
func TestThereAndBack(t *testing.T) {
	d := dice(9)
	read := 0
	for range 3000 {
		p := d.program()
		s := show.Program(p)
		if !fits(s) {
			if got, l := Program(s); len(l) != 1 || len(got.Items) != 0 {
				t.Fatalf("%d long: %v", len(s), l)
			}
			continue
		}
		got, l := Program(s)
		if len(l) != 0 || !tree.Same(got, p) || !tree.Whole(got) || show.Program(got) != s {
			t.Fatalf("%q: %v", s, l)
		}
		read++
	}
	if read < 1500 {
		t.Error("so many were read:", read)
	}
}

// P5.4: each At is the place of a token.
func TestAtsAreTokens(t *testing.T) {
	d := dice(77)
	for range 300 {
		s := written(&d, d.program(), 3)
		p, _ := Program(s)
		tokens, _, _ := lex.All(s)
		places := map[int]bool{}
		for _, x := range tokens {
			places[x.At] = true
		}
		for _, at := range atsOf(reflect.ValueOf(p)) {
			if !places[at] {
				t.Fatalf("%d in %q", at, s)
			}
		}
	}
}

// atsOf are the Ats of all items, statements and expressions that are there.
func atsOf(v reflect.Value) []int {
	var all []int
	switch v.Kind() {
	case reflect.Struct:
		// A struct's and an enum's Return is none.
		if e, ok := v.Interface().(api.Expr); ok && e.Op == 0 {
			return nil
		}
		if at := v.FieldByName("At"); at.IsValid() {
			all = append(all, int(at.Int()))
		}
		for i := range v.NumField() {
			all = append(all, atsOf(v.Field(i))...)
		}
	case reflect.Slice:
		for i := range v.Len() {
			all = append(all, atsOf(v.Index(i))...)
		}
	}
	return all
}

// P5.3: noise in a text that is refused changes no more than the fault's place.
func TestNoiseInFaults(t *testing.T) {
	d := dice(21)
	for _, l := range [][2]string{
		{"fn f() -> int { 0; }", "}"}, {"fn f() -> int { a < b < c }", "< c"}, {"fn f() -> int { (a) = 1; 0 }", "= 1"},
		{"fn f() -> int { let x = &a.5; 0 }", "5"}, {"struct s { }", "s {"},
	} {
		tokens, _, _ := lex.All(l[0])
		wrong := strings.Index(l[0], l[1])
		for range 50 {
			w := scribe{d: &d, rare: 2}
			want := -1
			for _, x := range tokens {
				if at := w.put(x.Text); x.At == wrong {
					want = at
				}
			}
			refused(t, w.text.String(), api.ErrText, want)
		}
	}
}
