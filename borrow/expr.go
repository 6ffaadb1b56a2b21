package borrow

import (
	"weftway/api"
	"weftway/loans"
	"weftway/sets"
	"weftway/types"
)

func (b *body) exprs(l []api.Expr) step {
	var steps []step
	for _, e := range l {
		steps = append(steps, b.expr(e))
	}
	return row(steps...)
}

// expr is the step of an expression; what it is made of comes ahead of itself.
func (b *body) expr(e api.Expr) step {
	args := b.exprs(e.Args)
	switch e.Op {
	case api.EUse:
		return b.taken(e)
	case api.EShare, api.EMut:
		return b.lent(e, b.depth)
	case api.ECall:
		return call(args)
	case api.EGet, api.ESet, api.EClone, api.ELoad, api.EStore, api.EFetch, api.ESend, api.ERecv:
		return row(args, b.used(e.Place, loans.URead, e.At))
	}
	return args
}

// call is the step of one with these arguments: nothing but they lends anything meanwhile, and that ends with the call.
func call(args step) step {
	return func(k known) known { return known{args(k).set, k.book} }
}

// taken is the step of a place that is copied, or moved.
func (b *body) taken(e api.Expr) step {
	if types.Copied(b.placeType(e.Place)) {
		return b.used(e.Place, loans.URead, e.At)
	}
	return row(b.used(e.Place, loans.UMove, e.At), unset(e.Place.Name))
}

func isLent(e api.Expr) bool { return e.Op == api.EShare || e.Op == api.EMut }

// lent is the step of an expression that lends a place, till that depth.
func (b *body) lent(e api.Expr, till int) step {
	use := loans.UShare
	if e.Op == api.EMut {
		use = loans.UAlone
	}
	return row(b.used(e.Place, use, e.At), lend(e.Place, e.Op == api.EMut, till))
}

// used asks whether a place may be used so; what is wrong with that changes nothing of what holds.
func (b *body) used(x api.Place, use uint8, at int) step {
	free := b.free(x, use, at)
	return func(k known) known {
		if !sets.Has(k.set.Set, x.Name) {
			b.tell(api.ErrUninit, at)
			return k
		}
		return free(k)
	}
}

// free asks the same of a place whose variable need not be set.
func (b *body) free(x api.Place, use uint8, at int) step {
	return func(k known) known {
		b.tell(loans.May(k.book, x, use), at)
		return k
	}
}
