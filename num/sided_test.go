package num

import (
	"testing"

	"weftway/api"
)

// A number that is taken apart comes together again, and two are the same struct just where they are the same number.
func TestApartAndTogether(t *testing.T) {
	edges := edges()
	for _, a := range edges {
		if n, e := apart(a).number(); n != a || e != api.OK {
			t.Errorf("%d: %d %d", a, n, e)
		}
		for _, b := range edges {
			if same := apart(a) == apart(b); same != (a == b) {
				t.Errorf("%d and %d: %t", a, b, same)
			}
		}
	}
}

// Whatever comes to 0 comes to the same struct, from either side.
func TestOneNought(t *testing.T) {
	five, below := apart(5), apart(-5)
	for _, c := range []struct {
		do   func(n, m sided) (sided, api.Errno)
		n, m sided
	}{
		{sided.plus, five, below}, {sided.plus, below, five}, {sided.less, below, below}, {sided.less, sided{}, sided{}},
		{sided.times, below, sided{}}, {sided.by, apart(-1), five}, {sided.rest, below, five},
	} {
		if n, e := c.do(c.n, c.m); n != (sided{}) || e != api.OK {
			t.Errorf("%v %v: %v %d", c.n, c.m, n, e)
		}
	}
	if (sided{}).turned() != (sided{}) {
		t.Error("0 turned is not 0")
	}
}
