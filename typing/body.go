package typing

import (
	"slices"

	"weftway/api"
	"weftway/types"
)

// body is that of a function, or of a spawn, as far as it has been gone through.
type body struct {
	program api.Program
	env     []api.Field // the variables that are there, as they were made
}

// function goes through an item's statements and its last expression, which sees what the statements made.
func function(p api.Program, x api.Item) {
	if x.Kind != api.IFn {
		return
	}
	// The room behind the parameters isn't the body's own.
	b := &body{p, slices.Clone(x.Fields)}
	b.statements(x.Body)
	result := b.expr(x.Return)
	must(types.Same(result, x.Result), api.ErrType, x.Return.At)
}

func (b *body) add(name string, t api.Type) {
	b.env = append(b.env, api.Field{Name: name, Type: t})
}

// block goes through statements; what they make is forgotten behind them, as is the variable that is made for them.
func (b *body) block(l []api.Stmt, made ...api.Field) {
	outer := len(b.env)
	b.env = append(b.env, made...)
	b.statements(l)
	b.env = b.env[:outer]
}

func (b *body) statements(l []api.Stmt) {
	for _, s := range l {
		b.statement(s)
	}
}

// variable is the type of the last one of that name; none, if there is none.
func (b *body) variable(name string) (api.Type, bool) {
	for _, v := range slices.Backward(b.env) {
		if v.Name == name {
			return v.Type, true
		}
	}
	return api.Type{}, false
}

// place is a place's type, and whether what stands there may be written.
func (b *body) place(x api.Place) (t api.Type, writable, ok bool) {
	from, ok := b.variable(x.Name)
	if !ok {
		return api.Type{}, false, false
	}
	return types.Walk(b.program, from, x.Path)
}

// find is the first item of that kind and name. names.Find would copy all of it, a function's body too, for each call of one.
func (b *body) find(kind uint8, name string) (api.Item, bool) {
	for _, x := range b.program.Items {
		if x.Kind == kind && x.Name == name {
			return x, true
		}
	}
	return api.Item{}, false
}

// fieldOf is the first field, or variant, of that name.
func fieldOf(x api.Item, name string) (api.Field, bool) {
	for _, field := range x.Fields {
		if field.Name == name {
			return field, true
		}
	}
	return api.Field{}, false
}
