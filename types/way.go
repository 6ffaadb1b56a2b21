package types

import (
	"slices"

	"weftway/api"
	"weftway/tree"
)

// through is the step that leads to what a Box, an Rc, an Arc, a reference has; all others are names of fields.
const through = "*"

// way is a row of steps from a type, in a program.
type way struct {
	program api.Program
	from    api.Type
	path    []string
}

// steps hands on where each step leads, and whether what it leads from has that alone; a step that leads nowhere is the end.
func (w way) steps(yield func(to api.Type, unshared bool) bool) {
	here := w.from
	for _, step := range w.path {
		next, unshared, ok := w.lead(here, step)
		if !ok || !yield(next, unshared) {
			return
		}
		here = next
	}
}

// lead takes one step. Only of the first type of a way it is known that it is whole: a field's in a program that isn't may lack what its kind asks for.
func (w way) lead(from api.Type, step string) (to api.Type, unshared, ok bool) {
	unshared = true
	switch from.Kind {
	case api.TRc, api.TArc, api.TRef:
		unshared = false
		fallthrough
	case api.TBox, api.TMut:
		if step == through && len(from.Args) > 0 {
			return from.Args[0], unshared, true
		}
	case api.TNamed:
		if step != through {
			to, ok = w.fieldOf(from.Name, step)
			return to, unshared, ok
		}
	}
	return api.Type{}, false, false
}

// fieldOf looks for the item itself: tables.Fields has an enum's variants too, and does not say whose they are.
func (w way) fieldOf(table, name string) (api.Type, bool) {
	items := w.program.Items
	i := slices.IndexFunc(items, func(x api.Item) bool {
		return x.Name == table && (x.Kind == api.IStruct || x.Kind == api.IEnum)
	})
	if i < 0 || items[i].Kind != api.IStruct {
		return api.Type{}, false
	}
	for _, field := range items[i].Fields {
		if field.Name == name {
			return field.Type, true
		}
	}
	return api.Type{}, false
}

// hasReference says whether there is one in a type, at any depth.
func hasReference(t api.Type) bool {
	return t.Kind == api.TRef || t.Kind == api.TMut || slices.ContainsFunc(t.Args, hasReference)
}

// apart is the same type in memory of its own: what a way leads to is a piece of the type that was handed in, or of the program.
func apart(t api.Type) api.Type {
	alone := tree.Copy(api.Program{Items: []api.Item{{Result: t}}})
	return alone.Items[0].Result
}
