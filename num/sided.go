package num

import (
	"math"
	"math/bits"

	"weftway/api"
)

// leastSize is how far from 0 the least number is; no other number is as far.
const leastSize = -math.MinInt64

// sided is a whole number as a side of 0 and a size. 0 is not below, so that two say the same number just where they are the same struct. It has room for sizes that no number has: whether a result goes over is asked once, of what came of it (number).
type sided struct {
	below bool
	size  uint64
}

// side makes a sided, with 0 on its one side.
func side(below bool, size uint64) sided {
	return sided{below: below && size != 0, size: size}
}

// apart takes a number apart.
func apart(a int64) sided {
	if a < 0 {
		// Turned round behind the conversion: the least number has no opposite ahead of it.
		return side(true, -uint64(a))
	}
	return side(false, uint64(a))
}

// number puts n together again: ErrOver, where no number is that far from 0 on that side.
func (n sided) number() (int64, api.Errno) {
	switch {
	case n == (sided{below: true, size: leastSize}):
		return math.MinInt64, api.OK
	case n.size >= leastSize:
		return 0, api.ErrOver
	case n.below:
		return -int64(n.size), api.OK
	}
	return int64(n.size), api.OK
}

// turned is n on the other side of 0.
func (n sided) turned() sided { return side(!n.below, n.size) }

// plus is both together.
func (n sided) plus(m sided) (sided, api.Errno) {
	if n.below == m.below {
		size, carry := bits.Add64(n.size, m.size, 0)
		if carry != 0 {
			return sided{}, api.ErrOver
		}
		return side(n.below, size), api.OK
	}
	if n.size < m.size {
		return side(m.below, m.size-n.size), api.OK
	}
	return side(n.below, n.size-m.size), api.OK
}

// less is n less m.
func (n sided) less(m sided) (sided, api.Errno) { return n.plus(m.turned()) }

// times is n times m.
func (n sided) times(m sided) (sided, api.Errno) {
	high, size := bits.Mul64(n.size, m.size)
	if high != 0 {
		return sided{}, api.ErrOver
	}
	return side(n.below != m.below, size), api.OK
}

// by is how many times m goes into n, towards 0.
func (n sided) by(m sided) (sided, api.Errno) {
	if m == (sided{}) {
		return sided{}, api.ErrZero
	}
	return side(n.below != m.below, n.size/m.size), api.OK
}

// rest is what by leaves of n, on n's side.
func (n sided) rest(m sided) (sided, api.Errno) {
	if m == (sided{}) {
		return sided{}, api.ErrZero
	}
	return side(n.below, n.size%m.size), api.OK
}
