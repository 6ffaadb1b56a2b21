package typing

import (
	"weftway/api"
	"weftway/types"
)

// statement goes through one, in the order: its expressions, itself, what stands within it.
func (b *body) statement(s api.Stmt) {
	given := b.exprs(s.Exprs)
	switch s.Op {
	case api.SLet:
		b.add(s.Name, given[0])
	case api.STake:
		b.take(s, given[0])
	case api.SAssign:
		b.assign(s, given[0])
	case api.SIf, api.SWhile:
		must(types.Same(given[0], plain(api.TBool)), api.ErrType, s.At)
		b.block(s.Body)
		b.block(s.Else)
	case api.SMatch:
		b.match(s)
	case api.SSpawn:
		b.spawn(s, given)
	case api.SLock:
		b.lock(s)
	case api.SChan:
		b.add(s.Name, of(api.TSender, s.Type))
		b.add(s.Second, of(api.TReceiver, s.Type))
	case api.SScope, api.SBlock:
		b.block(s.Body)
	}
}

func (b *body) take(s api.Stmt, given api.Type) {
	must(types.Same(given, named(s.Name)), api.ErrType, s.At)
	// The struct is there, and has as many fields: of other programs nothing is asked here.
	x, _ := b.find(api.IStruct, s.Name)
	for i, name := range s.Names {
		b.add(name, x.Fields[i].Type)
	}
}

func (b *body) assign(s api.Stmt, given api.Type) {
	t, writable, ok := b.place(s.Place)
	must(ok, api.ErrType, s.At)
	must(types.Owned(t), api.ErrOwned, s.At)
	must(writable && types.Same(t, given), api.ErrType, s.At)
}

func (b *body) match(s api.Stmt) {
	t, _ := b.variable(s.Name)
	must(types.Same(t, named(s.Second)), api.ErrType, s.At)
	x, _ := b.find(api.IEnum, s.Second)
	for _, arm := range s.Arms {
		// One without a name makes a variable that nothing can ask for.
		variant, _ := fieldOf(x, arm.Variant)
		b.block(arm.Body, api.Field{Name: arm.Name, Type: variant.Type})
	}
}

// spawn goes through the body, which sees nothing of this one but what the list hands over.
func (b *body) spawn(s api.Stmt, given []api.Type) {
	thread := &body{program: b.program}
	for i, name := range s.Names {
		thread.add(name, given[i])
	}
	thread.statements(s.Body)
}

func (b *body) lock(s api.Stmt) {
	t, _, _ := b.place(s.Place)
	part, ok := partOf(api.TMutex, t)
	must(ok, api.ErrType, s.At)
	b.block(s.Body, api.Field{Name: s.Name, Type: of(api.TMut, part)})
}
