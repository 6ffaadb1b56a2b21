package paths

import (
	"slices"
	"testing"

	"weftway/api"
)

// dice throws the same numbers each time.
type dice uint64

func (d *dice) below(n int) int {
	x := *d
	x ^= x << 13
	x ^= x >> 7
	x ^= x << 17
	*d = x
	return int(x>>11) % n
}

func (d *dice) place() api.Place {
	p := api.Place{Name: []string{"x", "y", "x1"}[d.below(3)]}
	for range d.below(5) {
		p.Path = append(p.Path, []string{"a", "b", "*", "ab"}[d.below(4)])
	}
	return p
}

func (d *dice) places(most int) []api.Place {
	var l []api.Place
	for range d.below(most + 1) {
		if len(l) > 0 && d.below(6) == 0 {
			l = append(l, l[d.below(len(l))])
		} else {
			l = append(l, d.place())
		}
	}
	return l
}

// judged is Least by its words: each place is held against each other one.
func judged(l []api.Place) []api.Place {
	var least []api.Place
	for i, p := range l {
		stays := true
		for j, q := range l {
			begun := q.Name == p.Name && len(q.Path) <= len(p.Path)
			for k := 0; begun && k < len(q.Path); k++ {
				begun = q.Path[k] == p.Path[k]
			}
			if begun && (len(q.Path) < len(p.Path) || j < i) {
				stays = false
			}
		}
		if stays {
			least = append(least, p)
		}
	}
	return least
}

// P11.4, P11.6: over scattered places Least is what its words say, and is enough: what meets one, or is begun by one, or is one of them.
func TestScattered(t *testing.T) {
	d := dice(4711)
	shorter, unsorted, meets, begun := 0, 0, 0, 0
	for round := range 20000 {
		l := d.places(9)
		least := Least(l)
		if want := judged(l); !slices.EqualFunc(least, want, Same) {
			t.Fatalf("%d: %s: %s, want %s", round, texts(l), texts(least), texts(want))
		}
		if again := Least(least); !slices.EqualFunc(least, again, Same) {
			t.Fatalf("%d: %s: %s", round, texts(least), texts(again))
		}
		if len(least) < len(l) {
			shorter++
		}
		if !slices.IsSortedFunc(least, compared) {
			unsorted++
		}
		p := d.place()
		meet := func(q api.Place) bool { return Meets(q, p) }
		begin := func(q api.Place) bool { return Begins(q, p) }
		if slices.ContainsFunc(l, meet) != slices.ContainsFunc(least, meet) || slices.ContainsFunc(l, begin) != slices.ContainsFunc(least, begin) {
			t.Fatalf("%d: %s, and %s of %s", round, texts([]api.Place{p}), texts(least), texts(l))
		}
		if slices.ContainsFunc(l, begin) {
			begun++
		}
		if slices.ContainsFunc(l, meet) {
			meets++
		}
	}
	if shorter < 5000 || unsorted < 5000 || begun < 2000 || meets < begun+500 || meets > 19000 {
		t.Error(shorter, unsorted, begun, meets)
	}
}

// P11.6: of all places up to a size, each row of three of them is enough where Least of it is.
func TestEnough(t *testing.T) {
	every := each(2, "a", "*")
	for _, a := range every {
		for _, b := range every {
			for _, c := range every {
				l := []api.Place{a, b, c}
				least := Least(l)
				for _, p := range every {
					if (Meets(a, p) || Meets(b, p) || Meets(c, p)) != slices.ContainsFunc(least, func(q api.Place) bool { return Meets(q, p) }) {
						t.Fatalf("%s: %s meets", texts(l), Text(p))
					}
					if (Begins(a, p) || Begins(b, p) || Begins(c, p)) != slices.ContainsFunc(least, func(q api.Place) bool { return Begins(q, p) }) {
						t.Fatalf("%s: %s begun", texts(l), Text(p))
					}
				}
			}
		}
	}
}
