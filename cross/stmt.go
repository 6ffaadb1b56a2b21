package cross

import (
	"weftway/api"
	"weftway/typing"
)

// statement goes through one: what it makes is there behind it, or in its blocks.
func (b *body) statement(s api.Stmt) {
	switch s.Op {
	case api.SLet:
		b.add(s.Name, b.exprType(s.Exprs[0]))
	case api.STake:
		b.take(s)
	case api.SMatch:
		b.blocks(b.arms(s)...)
	case api.SSpawn:
		b.spawn(s)
	case api.SLock:
		b.lock(s)
	case api.SChan:
		b.add(s.Name, of(api.TSender, s.Type))
		b.add(s.Second, of(api.TReceiver, s.Type))
	case api.SIf, api.SWhile, api.SScope, api.SBlock:
		b.blocks(block{statements: s.Body}, block{statements: s.Else})
	}
}

func of(kind uint8, t ...api.Type) api.Type { return api.Type{Kind: kind, Args: t} }

func (b *body) take(s api.Stmt) {
	for i, field := range b.fieldsOf(s.Name) {
		b.add(s.Names[i], field.Type)
	}
}

// arms are the blocks of a match. An arm without a name makes a variable that nothing can ask for.
func (b *body) arms(s api.Stmt) []block {
	payloads := map[string]api.Field{}
	for _, variant := range b.fieldsOf(s.Second) {
		payloads[variant.Name] = variant
	}
	var all []block
	for _, arm := range s.Arms {
		made := api.Field{Name: arm.Name, Type: payloads[arm.Variant].Type}
		all = append(all, block{[]api.Field{made}, arm.Body})
	}
	return all
}

// spawn notes what goes into the thread; its body waits, with just that for variables.
func (b *body) spawn(s api.Stmt) {
	var made []api.Field
	for i, e := range s.Exprs {
		t := b.exprType(e)
		b.own = append(b.own, Cross{t, e.At})
		made = append(made, api.Field{Name: s.Names[i], Type: t})
	}
	b.spawns = append(b.spawns, &body{program: b.program, whole: block{made, s.Body}})
}

func (b *body) lock(s api.Stmt) {
	mutex, _, _ := typing.Place(b.program, b.env, s.Place)
	g := api.Field{Name: s.Name, Type: of(api.TMut, mutex.Args...)}
	b.blocks(block{[]api.Field{g}, s.Body})
}
