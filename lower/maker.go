package lower

import (
	"slices"
	"strings"

	"weftway/api"
	"weftway/names"
)

// maker makes the unit of a program whose names are right.
type maker struct {
	types  []api.Item
	bodies []body         // by the numbers of their functions
	number map[string]int // of the items' functions
	owns   [api.ERecv + 1]func(*function, api.Expr) api.Instr
	works  [api.SBlock + 1]func(*function, api.Stmt)
}

// body is what a function is made of, or a spawn's body, which is one too.
type body struct {
	name   string
	params []string
	block  []api.Stmt
	last   api.Expr
}

func makeMaker(p api.Program) *maker {
	m := &maker{number: map[string]int{}, owns: makeOwns(), works: makeWorks()}
	for _, x := range p.Items {
		if x.Kind == api.IFn {
			m.number[x.Name] = len(m.bodies)
			m.bodies = append(m.bodies, body{x.Name, namesOf(x.Fields), x.Body, x.Return})
		} else {
			// Where the names are right there is one of a name, and Find's is a copy.
			own, _ := names.Find(p, x.Kind, x.Name)
			m.types = append(m.types, api.Item{Kind: own.Kind, Name: own.Name, Fields: own.Fields})
		}
	}
	return m
}

func (m *maker) unit() api.Unit {
	u := api.Unit{Main: m.number["main"], Types: m.types}
	// While a body's code is made the bodies of its spawns come behind all those that wait.
	for len(u.Funcs) < len(m.bodies) {
		u.Funcs = append(u.Funcs, m.function(m.bodies[len(u.Funcs)]))
	}
	return u
}

func (m *maker) function(b body) api.Func {
	f := &function{maker: m, slots: map[string]int{}}
	for _, name := range b.params {
		f.live = append(f.live, f.slot(name))
	}
	f.statements(b.block)
	f.expr(b.last)
	f.end(0)
	f.add(api.Instr{Op: api.OReturn})
	return api.Func{Name: strings.Clone(b.name), Params: len(b.params), Slots: f.made, Code: f.code}
}

// variant is the number that a variant has in its enum.
func (m *maker) variant(enum, name string) int {
	return slices.Index(namesOf(m.variants(enum)), name)
}

func (m *maker) variants(enum string) []api.Field {
	isEnum := func(x api.Item) bool { return x.Kind == api.IEnum && x.Name == enum }
	return m.types[slices.IndexFunc(m.types, isEnum)].Fields
}

func namesOf(fields []api.Field) []string {
	var names []string
	for _, x := range fields {
		names = append(names, x.Name)
	}
	return names
}
