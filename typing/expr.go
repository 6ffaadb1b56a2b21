package typing

import (
	"slices"

	"weftway/api"
	"weftway/tables"
	"weftway/types"
)

func (b *body) exprs(l []api.Expr) []api.Type {
	all := make([]api.Type, len(l))
	for i, e := range l {
		all[i] = b.expr(e)
	}
	return all
}

// expr is the type of an expression; what it is made of is asked ahead of itself.
func (b *body) expr(e api.Expr) api.Type {
	args := b.exprs(e.Args)
	switch e.Op {
	case api.ECall, api.EStruct, api.EEnum:
		asked, gives, ok := b.signature(e)
		must(ok && slices.EqualFunc(asked, args, isOf), api.ErrType, e.At)
		return gives
	}
	return b.operator(e, args)
}

func isOf(field api.Field, t api.Type) bool { return types.Same(field.Type, t) }

// signature is what an expression that names an item asks its Args to be, and what it gives; false, if there is no such item.
func (b *body) signature(e api.Expr) (asked []api.Field, gives api.Type, ok bool) {
	switch e.Op {
	case api.ECall:
		x, ok := b.find(api.IFn, e.Name)
		return x.Fields, x.Result, ok
	case api.EStruct:
		x, ok := b.find(api.IStruct, e.Name)
		return x.Fields, named(e.Name), ok && slices.EqualFunc(x.Fields, e.Place.Path, isNamed)
	}
	x, _ := b.find(api.IEnum, e.Name)
	variant, ok := fieldOf(x, e.Second)
	if types.Same(variant.Type, api.Type{}) {
		return nil, named(e.Name), ok
	}
	return []api.Field{variant}, named(e.Name), ok
}

func isNamed(field api.Field, name string) bool { return field.Name == name }

// operator is the type of an expression that names no item.
func (b *body) operator(e api.Expr, args []api.Type) api.Type {
	var f found
	r := rows[e.Op]
	writable := false
	if r.place != 0 {
		t, mayBe, ok := b.place(e.Place)
		must(ok && f.fits(r.place, t), api.ErrType, e.At)
		writable = mayBe
	}
	for _, t := range args {
		must(f.fits(r.args, t), api.ErrType, e.At)
	}
	err := beside(e, f.that, writable)
	must(err == api.OK, err, e.At)
	return f.gives(r.gives)
}

// beside is what is wrong with the row's T, or with the place: what an operator asks of them beside its row.
func beside(e api.Expr, t api.Type, writable bool) api.Errno {
	right, err := true, api.ErrType
	switch e.Op {
	case api.EUse:
		right, err = types.Copied(t) || len(e.Place.Path) == 0, api.ErrMove
	case api.EMut:
		right = writable
	case api.EBox, api.ERc, api.EArc, api.EMutex:
		right, err = types.Owned(t), api.ErrOwned
	case api.ECell:
		right = tables.Stands(of(api.TCell, t))
	case api.EClone:
		right = mayBeCloned(t)
	}
	if right {
		return api.OK
	}
	return err
}
