package parse

import (
	"math"
	"strings"

	"weftway/api"
)

// dice throws the same numbers each time.
type dice uint64

func (d *dice) below(n int) int {
	x := *d
	x ^= x << 13
	x ^= x >> 7
	x ^= x << 17
	*d = x
	return int(x>>11) % n
}

// pick is one of the words, that have a blank between any two.
func (d *dice) pick(words string) string {
	l := strings.Fields(words)
	return l[d.below(len(l))]
}

func (d *dice) name() string { return d.pick("a b x y longest_name_9Zz letx") }

func (d *dice) typeName() string { return d.pick("A B S E Boxes") }

// many are up to most of what one makes.
func many[T any](d *dice, most int, one func() T) []T {
	var out []T
	for range d.below(most + 1) {
		out = append(out, one())
	}
	return out
}

func (d *dice) place() api.Place {
	return api.Place{Name: d.name(), Path: many(d, 3, func() string { return d.pick("* a b *") })}
}

func (d *dice) typed(levels int) api.Type {
	kind := uint8(1 + d.below(14))
	switch {
	case kind == api.TNamed:
		return named(d.typeName())
	case kind <= api.TUnit || kind == api.TAtomic:
		return mk(kind)
	case levels == 0:
		return mk(api.TInt)
	}
	return mk(kind, d.typed(levels-1))
}

// formOf says what a kind of expression is made of: p of a place, e of one expression, 2 of two.
func formOf(op uint8) string {
	switch op {
	case api.EUse, api.EGet, api.EClone, api.ELoad, api.ERecv:
		return "p"
	case api.ESet, api.EStore, api.EFetch, api.ESend:
		return "pe"
	case api.ENeg, api.ENot, api.EBox, api.EUnbox, api.ECell, api.ERc, api.EArc, api.EMutex, api.EOpen, api.EAtomic:
		return "e"
	case api.EAdd, api.ESub, api.EMul, api.EDiv, api.EMod, api.ELess, api.EEqual, api.EAnd, api.EOr:
		return "2"
	}
	return ""
}

// expr is a whole one that isn't lent.
func (d *dice) expr(levels int) api.Expr {
	e := api.Expr{Op: uint8(1 + d.below(36))}
	if levels == 0 {
		e.Op = []uint8{api.EInt, api.EBool, api.EUnit, api.EUse}[d.below(4)]
	}
	if e.Op == api.EShare || e.Op == api.EMut {
		e.Op = api.EAdd + uint8(d.below(9))
	}
	inner := func() api.Expr { return d.expr(levels - 1) }
	switch form := formOf(e.Op); {
	case form == "2":
		e.Args = []api.Expr{inner(), inner()}
	case form != "":
		if strings.Contains(form, "p") {
			e.Place = d.place()
		}
		if strings.Contains(form, "e") {
			e.Args = []api.Expr{inner()}
		}
	case e.Op == api.EInt:
		e.Int = []int64{0, 7, 12, math.MaxInt64}[d.below(4)]
	case e.Op == api.EBool:
		e.Int = int64(d.below(2))
	case e.Op == api.ECall:
		e.Name = d.name()
		e.Args = many(d, 6, func() api.Expr { return d.lent(levels - 1) })
	case e.Op == api.EStruct:
		e.Name = d.typeName()
		e.Args = many(d, 6, inner)
		for range e.Args {
			e.Place.Path = append(e.Place.Path, d.name())
		}
	case e.Op == api.EEnum:
		e.Name, e.Second = d.typeName(), d.typeName()
		e.Args = many(d, 1, inner)
	}
	return e
}

func (d *dice) lent(levels int) api.Expr {
	switch d.below(4) {
	case 0:
		return api.Expr{Op: api.EShare, Place: d.place()}
	case 1:
		return api.Expr{Op: api.EMut, Place: d.place()}
	}
	return d.expr(levels)
}

func (d *dice) body(levels int) []api.Stmt {
	if levels == 0 {
		return nil
	}
	return many(d, 3, func() api.Stmt { return d.statement(levels - 1) })
}

func (d *dice) statement(levels int) api.Stmt {
	e := d.expr(min(levels, 3))
	switch uint8(1 + d.below(13)) {
	case api.SLet:
		return let(d.name(), d.lent(levels))
	case api.STake:
		return take(d.typeName(), strings.Join(many(d, 6, d.name), " "), e)
	case api.SAssign:
		return api.Stmt{Op: api.SAssign, Place: d.place(), Exprs: []api.Expr{e}}
	case api.SDo:
		return do(e)
	case api.SDrop:
		return api.Stmt{Op: api.SDrop, Name: d.name()}
	case api.SIf:
		return choose(e, d.body(levels), d.body(levels))
	case api.SWhile:
		return while(e, d.body(levels)...)
	case api.SMatch:
		return match(d.name(), d.typeName(), many(d, 6, func() api.Arm { return d.arm(levels) })...)
	case api.SScope:
		return scope(d.body(levels)...)
	case api.SSpawn:
		s := spawn(strings.Join(many(d, 6, d.name), " "), nil, d.body(levels)...)
		for range s.Names {
			s.Exprs = append(s.Exprs, d.lent(min(levels, 2)))
		}
		return s
	case api.SLock:
		return api.Stmt{Op: api.SLock, Place: d.place(), Name: d.name(), Body: d.body(levels)}
	case api.SChan:
		return channel(d.typed(3), int64(1+d.below(8)), d.name(), d.name())
	}
	return block(d.body(levels)...)
}

func (d *dice) arm(levels int) api.Arm {
	a := api.Arm{Variant: d.typeName(), Body: d.body(levels)}
	if d.below(2) == 0 {
		a.Name = d.name()
	}
	return a
}

func (d *dice) item() api.Item {
	fields := many(d, 6, func() api.Field { return field(d.name(), d.typed(3)) })
	switch d.below(4) {
	case 0:
		return structure(d.typeName(), fields...)
	case 1:
		for i := range fields {
			fields[i].Name = d.typeName()
			if d.below(2) == 0 {
				fields[i].Type = api.Type{}
			}
		}
		return enum(d.typeName(), fields...)
	}
	return function(d.name(), fields, d.typed(4), d.expr(3), d.body(4)...)
}

func (d *dice) program() api.Program {
	return api.Program{Items: many(d, 4, d.item)}
}
