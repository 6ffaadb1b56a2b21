package sets

import (
	"slices"
	"testing"
)

// dice throws the same numbers each time.
type dice uint64

func (d *dice) below(n int) int {
	x := *d
	x ^= x << 13
	x ^= x >> 7
	x ^= x << 17
	*d = x
	return int(x>>11) % n
}

// known are the names of the second judge, in the order in which they rise: a bit of a number stands for each of them.
func known() []string {
	return []string{"", "A", "a", "a1", "a10", "a2", "ab", "b", "b_", "ba"}
}

// named is the set of those whose bits a number has.
func named(bits int) []string {
	var set []string
	for i, name := range known() {
		if bits>>i&1 == 1 {
			set = append(set, name)
		}
	}
	return set
}

// names are thrown names, in any order, some of them more than once, and their bits.
func (d *dice) names() (l []string, bits int) {
	every := known()
	for range d.below(12) {
		i := d.below(len(every))
		l = append(l, every[i])
		bits |= 1 << i
	}
	return l, bits
}

// P12.1 to P12.3: of scattered rows of names, sets or not, the answers are those of the second judge, who reckons with bits.
func TestScattered(t *testing.T) {
	d := dice(1248)
	unsorted, within, same := 0, 0, 0
	for round := range 30000 {
		a, first := d.names()
		b, second := d.names()
		if d.below(4) == 0 {
			b, second = slices.Concat(a[len(a)/2:], a), first
		}
		for _, c := range []struct {
			got  []string
			bits int
		}{{Of(a...), first}, {Union(a, b), first | second}, {Common(a, b), first & second}, {Minus(a, b), first &^ second}, {Minus(b, a), second &^ first}} {
			if !slices.Equal(c.got, named(c.bits)) {
				t.Fatalf("%d: %q, %q: %q, want %q", round, a, b, c.got, named(c.bits))
			}
		}
		if Same(a, b) != (first == second) || Within(a, b) != (first&^second == 0) {
			t.Fatalf("%d: %q, %q: %v, %v", round, a, b, Same(a, b), Within(a, b))
		}
		for i, name := range known() {
			if Has(a, name) != (first>>i&1 == 1) {
				t.Fatalf("%d: %q: %q", round, a, name)
			}
		}
		if !slices.IsSorted(a) {
			unsorted++
		}
		if first == second {
			same++
		} else if Within(a, b) {
			within++
		}
	}
	if unsorted < 15000 || within < 1500 || same < 5000 || same > 15000 {
		t.Error(unsorted, within, same)
	}
}

// each are all sets of the first names there are.
func each(names int) [][]string {
	var l [][]string
	for bits := range 1 << names {
		l = append(l, named(bits))
	}
	return l
}

// P12.5: Union and Common may be turned about, put together in any order, and each goes over the other one; Minus of a union is Minus of one behind the other.
func TestLaws(t *testing.T) {
	sets := each(4)
	for _, a := range sets {
		for _, b := range sets {
			if !slices.Equal(Union(a, b), Union(b, a)) || !slices.Equal(Common(a, b), Common(b, a)) {
				t.Errorf("%q, %q: turned about", a, b)
			}
			if !slices.Equal(Union(a, Common(a, b)), a) || !slices.Equal(Common(a, Union(a, b)), a) || !slices.Equal(Union(Minus(a, b), Common(a, b)), a) || Common(Minus(a, b), b) != nil {
				t.Errorf("%q, %q: one out of its parts", a, b)
			}
			if Same(a, b) != (Within(a, b) && Within(b, a)) || Within(a, b) != Same(Union(a, b), b) || Within(a, b) != Same(Common(a, b), a) || Within(a, b) != (len(Minus(a, b)) == 0) {
				t.Errorf("%q, %q: same, within", a, b)
			}
			for _, c := range sets {
				if !slices.Equal(Union(Union(a, b), c), Union(a, Union(b, c))) || !slices.Equal(Common(Common(a, b), c), Common(a, Common(b, c))) {
					t.Errorf("%q, %q, %q: put together", a, b, c)
				}
				if !slices.Equal(Union(a, Common(b, c)), Common(Union(a, b), Union(a, c))) || !slices.Equal(Common(a, Union(b, c)), Union(Common(a, b), Common(a, c))) {
					t.Errorf("%q, %q, %q: over the other one", a, b, c)
				}
				if !slices.Equal(Minus(a, Union(b, c)), Minus(Minus(a, b), c)) || !slices.Equal(Minus(Union(a, b), c), Union(Minus(a, c), Minus(b, c))) {
					t.Errorf("%q, %q, %q: minus", a, b, c)
				}
			}
		}
	}
}

// states are all that know some of the first names there are, and a dead one with and without names.
func states(names int) []State {
	l := []State{{Dead: true}, {Dead: true, Set: named(3)}}
	for _, set := range each(names) {
		l = append(l, State{Set: set})
	}
	return l
}

// P12.6: Join of two states knows no more than either, and all that any knows that knows no more than either.
func TestLeastOfBoth(t *testing.T) {
	l := states(4)
	below := 0
	for _, a := range l {
		for _, b := range l {
			joined := Join(a, b)
			if !Less(joined, a) || !Less(joined, b) || joined.Dead != (a.Dead && b.Dead) || joined.Dead && joined.Set != nil {
				t.Errorf("%q, %q: %q", told(a), told(b), told(joined))
			}
			for _, c := range l {
				if Less(c, a) && Less(c, b) {
					below++
					if !Less(c, joined) {
						t.Errorf("%q, %q: %q, below it %q", told(a), told(b), told(joined), told(c))
					}
				}
				if Less(a, b) && Less(b, c) && !Less(a, c) {
					t.Errorf("%q, %q, %q: across", told(a), told(b), told(c))
				}
			}
		}
	}
	if below < 600 {
		t.Error(below)
	}
}

// P12.6: so Join may be turned about and put together in any order, joined with itself a state stays, and a dead one adds nothing.
func TestJoinLaws(t *testing.T) {
	l := states(3)
	equal := func(a, b State) bool { return a.Dead == b.Dead && slices.Equal(a.Set, b.Set) }
	for _, a := range l {
		if itself := Join(a, a); itself.Dead != a.Dead || !a.Dead && !slices.Equal(itself.Set, a.Set) || !equal(Join(a, State{Dead: true}), itself) {
			t.Errorf("%q: %q", told(a), told(itself))
		}
		for _, b := range l {
			if !equal(Join(a, b), Join(b, a)) {
				t.Errorf("%q, %q: turned about", told(a), told(b))
			}
			for _, c := range l {
				if !equal(Join(Join(a, b), c), Join(a, Join(b, c))) {
					t.Errorf("%q, %q, %q: put together", told(a), told(b), told(c))
				}
			}
		}
	}
}
