package num

import (
	"math"
	"math/big"
	"slices"
	"testing"

	"weftway/api"
)

const least, greatest = math.MinInt64, math.MaxInt64

type counting struct {
	name string
	do   func(a, b int64) (int64, api.Errno)
	// paper is the same on numbers without ends; nil stands for none.
	paper func(a, b *big.Int) *big.Int
}

func neg(_, b int64) (int64, api.Errno) { return Neg(b) }

func sums() []counting {
	return []counting{
		{"Add", Add, func(a, b *big.Int) *big.Int { return new(big.Int).Add(a, b) }},
		{"Sub", Sub, func(a, b *big.Int) *big.Int { return new(big.Int).Sub(a, b) }},
		{"Mul", Mul, func(a, b *big.Int) *big.Int { return new(big.Int).Mul(a, b) }},
		{"Neg", neg, func(_, b *big.Int) *big.Int { return new(big.Int).Neg(b) }},
	}
}

func shares() []counting {
	return []counting{
		{"Div", Div, func(a, b *big.Int) *big.Int {
			if b.Sign() == 0 {
				return nil
			}
			return new(big.Int).Quo(a, b)
		}},
		{"Mod", Mod, func(a, b *big.Int) *big.Int {
			if b.Sign() == 0 {
				return nil
			}
			return new(big.Int).Rem(a, b)
		}},
	}
}

// onPaper is what c comes to by its paper: ErrZero where that has none, ErrOver where it is no number.
func onPaper(c counting, a, b int64) (int64, api.Errno) {
	n := c.paper(big.NewInt(a), big.NewInt(b))
	switch {
	case n == nil:
		return 0, api.ErrZero
	case !n.IsInt64():
		return 0, api.ErrOver
	}
	return n.Int64(), api.OK
}

// edges are numbers at the ends, around 0, and around where sums, products and numerals reach the ends.
func edges() []int64 {
	var out []int64
	for _, middle := range []int64{0, 10, 17, 100, 1 << 31, 3037000499, 1 << 32, greatest / 10, 1 << 61, greatest / 3, 1 << 62, greatest - 2} {
		for d := int64(-2); d <= 2; d++ {
			out = append(out, middle+d, -middle-d)
		}
	}
	out = append(out, least, least+1, least+2)
	slices.Sort(out)
	return slices.Compact(out)
}

// scattered are n numbers of all sizes, the same ones each time.
func scattered(n int) []int64 {
	var out []int64
	x := uint64(88172645463325252)
	for range n {
		x ^= x << 13
		x ^= x >> 7
		x ^= x << 17
		out = append(out, int64(x)>>(x%64))
	}
	return out
}

func checkOnPaper(t *testing.T, cs []counting, as, bs []int64) {
	t.Helper()
	for _, c := range cs {
		seen := map[api.Errno]int{}
		for _, a := range as {
			for _, b := range bs {
				want, wantE := onPaper(c, a, b)
				if got, e := c.do(a, b); got != want || e != wantE {
					t.Errorf("%s %d %d: %d %d, want %d %d", c.name, a, b, got, e, want, wantE)
				}
				seen[wantE]++
			}
		}
		if seen[api.OK] == 0 {
			t.Errorf("%s: nothing was counted", c.name)
		}
	}
}

// P1.1, P0.1, P0.2: at the edges and at scattered numbers, what paper says; beside ErrOver a 0.
func TestSumsAreAsOnPaper(t *testing.T) {
	checkOnPaper(t, sums(), edges(), edges())
	checkOnPaper(t, sums(), scattered(300), scattered(300))
	checkOnPaper(t, sums(), edges(), scattered(300))
}

// P1.2, P0.1, P0.2: the same; beside ErrZero a 0.
func TestSharesAreAsOnPaper(t *testing.T) {
	checkOnPaper(t, shares(), edges(), edges())
	checkOnPaper(t, shares(), scattered(300), scattered(300))
	checkOnPaper(t, shares(), scattered(300), edges())
}

type row struct {
	name string
	do   func(a, b int64) (int64, api.Errno)
	a, b int64
	want int64
	e    api.Errno
}

func checkRows(t *testing.T, rows []row) {
	t.Helper()
	for _, r := range rows {
		if got, e := r.do(r.a, r.b); got != r.want || e != r.e {
			t.Errorf("%s %d %d: %d %d, want %d %d", r.name, r.a, r.b, got, e, r.want, r.e)
		}
	}
}

// The rows of the chapter's examples that count.
func TestExamplesOfCounting(t *testing.T) {
	checkRows(t, []row{
		{"Add", Add, 40, 2, 42, api.OK},
		{"Add", Add, greatest, 1, 0, api.ErrOver},
		{"Add", Add, least, greatest, -1, api.OK},
		{"Sub", Sub, 0, least, 0, api.ErrOver},
		{"Neg", neg, 0, least, 0, api.ErrOver},
		{"Mul", Mul, 3, -4, -12, api.OK},
		{"Mul", Mul, 1 << 62, 2, 0, api.ErrOver},
		{"Mul", Mul, -1 << 62, 2, least, api.OK},
		{"Div", Div, 17, 5, 3, api.OK},
		{"Div", Div, -17, 5, -3, api.OK},
		{"Div", Div, 17, -5, -3, api.OK},
		{"Mod", Mod, 17, 5, 2, api.OK},
		{"Mod", Mod, -17, 5, -2, api.OK},
		{"Mod", Mod, 17, -5, 2, api.OK},
	})
}

// P1.1: the ends in Add, Sub and Neg, just within and just beyond.
func TestSumsAtTheEnds(t *testing.T) {
	checkRows(t, []row{
		{"Add", Add, greatest, 0, greatest, api.OK},
		{"Add", Add, greatest - 1, 1, greatest, api.OK},
		{"Add", Add, 1, greatest, 0, api.ErrOver},
		{"Add", Add, greatest, -1, greatest - 1, api.OK},
		{"Add", Add, greatest, greatest, 0, api.ErrOver},
		{"Add", Add, greatest, -greatest, 0, api.OK},
		{"Add", Add, least, 0, least, api.OK},
		{"Add", Add, least + 1, -1, least, api.OK},
		{"Add", Add, least, -1, 0, api.ErrOver},
		{"Add", Add, least, 1, least + 1, api.OK},
		{"Add", Add, least, least, 0, api.ErrOver},
		{"Add", Add, 1 << 62, 1<<62 - 1, greatest, api.OK},
		{"Add", Add, 1 << 62, 1 << 62, 0, api.ErrOver},
		{"Add", Add, -1 << 62, -1 << 62, least, api.OK},
		{"Add", Add, -1 << 62, -1<<62 - 1, 0, api.ErrOver},
		{"Sub", Sub, greatest, 0, greatest, api.OK},
		{"Sub", Sub, greatest, -1, 0, api.ErrOver},
		{"Sub", Sub, greatest, greatest, 0, api.OK},
		{"Sub", Sub, greatest, least, 0, api.ErrOver},
		{"Sub", Sub, least, 0, least, api.OK},
		{"Sub", Sub, least, 1, 0, api.ErrOver},
		{"Sub", Sub, least, -1, least + 1, api.OK},
		{"Sub", Sub, least, least, 0, api.OK},
		{"Sub", Sub, least, greatest, 0, api.ErrOver},
		{"Sub", Sub, -1, least, greatest, api.OK},
		{"Sub", Sub, 0, greatest, -greatest, api.OK},
		{"Sub", Sub, -1, greatest, least, api.OK},
		{"Sub", Sub, -2, greatest, 0, api.ErrOver},
		{"Neg", neg, 0, greatest, -greatest, api.OK},
		{"Neg", neg, 0, least + 1, greatest, api.OK},
		{"Neg", neg, 0, 0, 0, api.OK},
		{"Neg", neg, 0, 1, -1, api.OK},
		{"Neg", neg, 0, -1, 1, api.OK},
	})
}

// P1.1: the ends in Mul; by 0, 1 and -1.
func TestProductsAtTheEnds(t *testing.T) {
	checkRows(t, []row{
		{"Mul", Mul, least, 0, 0, api.OK},
		{"Mul", Mul, 0, least, 0, api.OK},
		{"Mul", Mul, 0, -7, 0, api.OK},
		{"Mul", Mul, least, 1, least, api.OK},
		{"Mul", Mul, least, -1, 0, api.ErrOver},
		{"Mul", Mul, -1, least, 0, api.ErrOver},
		{"Mul", Mul, least, least, 0, api.ErrOver},
		{"Mul", Mul, greatest, 0, 0, api.OK},
		{"Mul", Mul, greatest, 1, greatest, api.OK},
		{"Mul", Mul, greatest, -1, -greatest, api.OK},
		{"Mul", Mul, greatest, greatest, 0, api.ErrOver},
		{"Mul", Mul, greatest, least, 0, api.ErrOver},
		{"Mul", Mul, 1 << 62, -2, least, api.OK},
		{"Mul", Mul, -1 << 62, -2, 0, api.ErrOver},
		{"Mul", Mul, 1 << 31, -1 << 32, least, api.OK},
		{"Mul", Mul, 1 << 31, 1 << 32, 0, api.ErrOver},
		{"Mul", Mul, 1 << 32, 1 << 32, 0, api.ErrOver},
		{"Mul", Mul, 3037000499, 3037000499, 9223372030926249001, api.OK},
		{"Mul", Mul, 3037000500, 3037000500, 0, api.ErrOver},
		{"Mul", Mul, -3037000499, 3037000499, -9223372030926249001, api.OK},
		{"Mul", Mul, -3037000500, 3037000500, 0, api.ErrOver},
		{"Mul", Mul, 7, 1317624576693539401, greatest, api.OK},
		{"Mul", Mul, -7, 1317624576693539401, -greatest, api.OK},
	})
}

// P1.2: the ends in Div and Mod; by 0, 1 and -1.
func TestSharesAtTheEnds(t *testing.T) {
	checkRows(t, []row{
		{"Div", Div, least, -1, 0, api.ErrOver},
		{"Div", Div, least, 1, least, api.OK},
		{"Div", Div, least, 0, 0, api.ErrZero},
		{"Div", Div, least, 2, -1 << 62, api.OK},
		{"Div", Div, least, least, 1, api.OK},
		{"Div", Div, least, greatest, -1, api.OK},
		{"Div", Div, least + 1, -1, greatest, api.OK},
		{"Div", Div, greatest, -1, -greatest, api.OK},
		{"Div", Div, greatest, 1, greatest, api.OK},
		{"Div", Div, greatest, 0, 0, api.ErrZero},
		{"Div", Div, greatest, least, 0, api.OK},
		{"Div", Div, greatest, greatest, 1, api.OK},
		{"Div", Div, -greatest, least, 0, api.OK},
		{"Div", Div, 0, 0, 0, api.ErrZero},
		{"Div", Div, 0, -5, 0, api.OK},
		{"Div", Div, -17, -5, 3, api.OK},
		{"Mod", Mod, least, -1, 0, api.OK},
		{"Mod", Mod, least, 1, 0, api.OK},
		{"Mod", Mod, least, 0, 0, api.ErrZero},
		{"Mod", Mod, least, least, 0, api.OK},
		{"Mod", Mod, least, greatest, -1, api.OK},
		{"Mod", Mod, least, 10, -8, api.OK},
		{"Mod", Mod, least + 1, least, least + 1, api.OK},
		{"Mod", Mod, greatest, -1, 0, api.OK},
		{"Mod", Mod, greatest, 1, 0, api.OK},
		{"Mod", Mod, greatest, 0, 0, api.ErrZero},
		{"Mod", Mod, greatest, least, greatest, api.OK},
		{"Mod", Mod, 0, 0, 0, api.ErrZero},
		{"Mod", Mod, 0, -5, 0, api.OK},
		{"Mod", Mod, -17, -5, -2, api.OK},
	})
}

// P1.2: Mod is a less b times Div, wherever there is a Div.
func TestModIsWhatDivLeaves(t *testing.T) {
	for _, a := range edges() {
		for _, b := range edges() {
			times, e := Div(a, b)
			if e != api.OK {
				continue
			}
			product, e1 := Mul(b, times)
			want, e2 := Sub(a, product)
			if got, e := Mod(a, b); got != want || e != api.OK || e1 != api.OK || e2 != api.OK {
				t.Errorf("Mod %d %d: %d %d, want %d %d %d", a, b, got, e, want, e1, e2)
			}
		}
	}
}

// then goes on with b from what was counted already, unless that went over.
func then(do func(a, b int64) (int64, api.Errno), a int64, e api.Errno, b int64) (int64, api.Errno) {
	if e != api.OK {
		return 0, e
	}
	return do(a, b)
}

func added(a, b, c int64) (int64, api.Errno) {
	n, e := Add(a, b)
	return then(Add, n, e, c)
}

// P1.4: three numbers added come to the same in any order.
func TestAddedInAnyOrder(t *testing.T) {
	checked := 0
	edges := edges()
	for _, a := range edges {
		for _, b := range edges {
			for _, c := range edges {
				first, e1 := added(a, b, c)
				for _, p := range [][3]int64{{a, c, b}, {b, a, c}, {b, c, a}, {c, a, b}, {c, b, a}} {
					next, e2 := added(p[0], p[1], p[2])
					if e1 != api.OK || e2 != api.OK {
						continue
					}
					if checked++; first != next {
						t.Fatalf("%d %d %d: %d, and %d as %v", a, b, c, first, next, p)
					}
				}
			}
		}
	}
	if checked < 100000 {
		t.Errorf("only %d of them came to something", checked)
	}
}

// P1.4: a product is shared out over a sum.
func TestProductsOverSums(t *testing.T) {
	checked := 0
	edges := edges()
	for _, a := range edges {
		for _, b := range edges {
			for _, c := range edges {
				n, e := Add(b, c)
				whole, e1 := then(Mul, n, e, a)
				left, e2 := Mul(a, b)
				right, e3 := Mul(a, c)
				if e1 != api.OK || e2 != api.OK || e3 != api.OK {
					continue
				}
				checked++
				if shared, e := Add(left, right); shared != whole || e != api.OK {
					t.Fatalf("%d times %d and %d: %d, shared out %d %d", a, b, c, whole, shared, e)
				}
			}
		}
	}
	if checked < 10000 {
		t.Errorf("only %d of them came to something", checked)
	}
}

// P1.5: the greater stays the greater with the same added; taken from 0 it is the lesser.
func TestInOrder(t *testing.T) {
	checked := 0
	edges := edges()
	for _, a := range edges {
		for _, b := range edges {
			if a <= b {
				continue
			}
			x, e1 := Neg(a)
			y, e2 := Neg(b)
			if e1 == api.OK && e2 == api.OK && x >= y {
				t.Errorf("0 less %d: %d; 0 less %d: %d", a, x, b, y)
			}
			for _, c := range edges {
				x, e1 := Add(a, c)
				y, e2 := Add(b, c)
				if e1 != api.OK || e2 != api.OK {
					continue
				}
				if checked++; x <= y {
					t.Fatalf("%d and %d: %d; %d and it: %d", a, c, x, b, y)
				}
			}
		}
	}
	if checked < 10000 {
		t.Errorf("only %d of them came to something", checked)
	}
}
