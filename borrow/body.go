package borrow

import (
	"slices"

	"weftway/api"
	"weftway/typing"
)

// body is that of a function, or of a spawn. First a step is made of each statement, with all that doesn't hang on the way there: types, depths. Then the steps are gone, as often as loops ask for.
type body struct {
	program api.Program
	works   [api.SBlock + 1]func(api.Stmt) step
	env     []api.Field    // the variables that are there, as they were made
	depths  map[string]int // of all variables that were made
	depth   int            // of those of the block that is gone through
	scope   int            // of those of the innermost scope's block
	threads []thread       // the spawns, as they are met
	faults  []api.Fault    // as they are met
}

// thread is what a spawn has for a body of its own.
type thread struct {
	params []api.Field
	body   []api.Stmt
}

// makeBody makes one whose own statements come next.
func makeBody(p api.Program, params []api.Field) *body {
	b := &body{program: p, depths: map[string]int{}}
	b.works = b.makeWorks()
	b.add(params...)
	b.depth = 1
	return b
}

// add makes variables, as deep as the block that is gone through.
func (b *body) add(l ...api.Field) {
	for _, x := range l {
		b.env = append(b.env, x)
		b.depths[x.Name] = b.depth
	}
}

// tell notes a fault, if there is one.
func (b *body) tell(e api.Errno, at int) {
	if e != api.OK {
		b.faults = append(b.faults, api.Fault{Err: e, At: at})
	}
}

func (b *body) statements(l []api.Stmt) step {
	var steps []step
	for _, s := range l {
		work := b.works[s.Op]
		steps = append(steps, work(s))
	}
	return row(steps...)
}

// block is the step of a block, with the variables that are made for it; behind it neither these nor its own are set, and what they have borrowed isn't lent.
func (b *body) block(l []api.Stmt, made ...api.Field) step {
	outer := len(b.env)
	b.depth++
	b.add(made...)
	first := row(set(namesOf(made)...), b.statements(l))
	behind := row(unset(namesOf(b.env[outer:])...), end(b.depth))
	b.depth--
	b.env = b.env[:outer]
	return row(first, behind)
}

func (b *body) placeType(x api.Place) api.Type {
	t, _, _ := typing.Place(b.program, b.env, x)
	return t
}

func (b *body) exprType(e api.Expr) api.Type {
	t, _ := typing.Expr(b.program, b.env, e)
	return t
}

// fieldsOf are the fields of a struct, the variants of an enum.
func (b *body) fieldsOf(name string) []api.Field {
	i := slices.IndexFunc(b.program.Items, func(x api.Item) bool {
		return x.Name == name && x.Kind != api.IFn
	})
	return b.program.Items[i].Fields
}

func isReference(t api.Type) bool { return t.Kind == api.TRef || t.Kind == api.TMut }
