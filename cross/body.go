package cross

import (
	"slices"

	"weftway/api"
	"weftway/typing"
)

// body is that of a function, or of a spawn.
type body struct {
	program api.Program
	env     []api.Field // the variables that are there, as they were made
	whole   block
	own     []Cross // of its spawns' lists
	spawns  []*body
}

// block is one of a statement, with the variables that are made for it.
type block struct {
	made       []api.Field
	statements []api.Stmt
}

func functionsOf(p api.Program) []*body {
	var all []*body
	for _, x := range p.Items {
		if x.Kind == api.IFn {
			all = append(all, &body{program: p, whole: block{x.Fields, x.Body}})
		}
	}
	return all
}

// goThrough goes through bodies, and through all within them: a body's spawns wait at the end of the row, which grows meanwhile.
func goThrough(row []*body) {
	row = slices.Clone(row)
	for from, till := 0, len(row); from < till; from, till = till, len(row) {
		for i := range till - from {
			b := row[from+i]
			b.blocks(b.whole)
			row = append(row, b.spawns...)
		}
	}
}

// crossings are a body's own, and behind them those of each of its spawns. In the row all the spawns of a body stand ahead of what is within them.
func (b *body) crossings() []Cross {
	all := b.own
	for _, s := range b.spawns {
		all = append(all, s.crossings()...)
	}
	return all
}

// blocks goes through blocks, one behind the other; what one makes is forgotten behind it.
func (b *body) blocks(l ...block) {
	outer := len(b.env)
	for _, x := range l {
		b.env = append(b.env, x.made...)
		for _, s := range x.statements {
			b.statement(s)
		}
		b.env = b.env[:outer]
	}
}

func (b *body) add(name string, t api.Type) {
	b.env = append(b.env, api.Field{Name: name, Type: t})
}

func (b *body) exprType(e api.Expr) api.Type {
	t, _ := typing.Expr(b.program, b.env, e)
	return t
}

// fieldsOf are the fields of a struct, the variants of an enum.
func (b *body) fieldsOf(name string) []api.Field {
	i := slices.IndexFunc(b.program.Items, func(x api.Item) bool {
		return x.Name == name && x.Kind != api.IFn
	})
	return b.program.Items[i].Fields
}
