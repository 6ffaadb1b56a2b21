package borrow

import (
	"weftway/api"
	"weftway/loans"
	"weftway/sets"
)

// known is what holds at a place of a body: which variables are set there, and what is lent.
type known struct {
	set  sets.State
	book []loans.Loan
}

// nowhere holds where no way comes.
func nowhere() known { return known{set: sets.State{Dead: true}} }

func setOf(l []api.Field) sets.State { return sets.State{Set: sets.Of(namesOf(l)...)} }

func namesOf(l []api.Field) []string {
	var names []string
	for _, x := range l {
		names = append(names, x.Name)
	}
	return names
}

func join(a, b known) known {
	return known{sets.Join(a.set, b.set), loans.Union(a.book, b.book)}
}

// grown says whether something new came to what held before, which is in it.
func grown(k, before known) bool {
	return !sets.Less(before.set, k.set) || !loans.Same(before.book, k.book)
}

// step goes on from what holds ahead of a piece of a body to what holds behind it.
type step func(known) known

// row is the steps one behind the other.
func row(steps ...step) step {
	return func(k known) known {
		for _, next := range steps {
			k = next(k)
		}
		return k
	}
}

// parted goes each of the ways from the same place; behind them holds what holds behind each. Without ways nothing happens.
func parted(ways []step) step {
	if len(ways) == 0 {
		return row()
	}
	return func(k known) known {
		behind := nowhere()
		for _, way := range ways {
			behind = join(behind, way(k))
		}
		return behind
	}
}

func set(names ...string) step {
	return func(k known) known {
		return known{sets.State{Set: sets.Union(k.set.Set, names)}, k.book}
	}
}

func unset(names ...string) step {
	return func(k known) known {
		return known{sets.State{Set: sets.Minus(k.set.Set, names)}, k.book}
	}
}

func lend(x api.Place, alone bool, till int) step {
	return func(k known) known {
		return known{k.set, loans.Add(k.book, loans.Loan{Place: x, Alone: alone, Till: till})}
	}
}

// end lets all loans go that hold till that depth.
func end(depth int) step {
	return func(k known) known { return known{k.set, loans.End(k.book, depth)} }
}
