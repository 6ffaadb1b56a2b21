package names

import (
	"slices"

	"weftway/api"
	"weftway/tree"
)

// judge is a second one: first it writes down what is made where, and what is asked where, and only then answers. A place in a function is the row of the blocks that it stands in, and when it is met.
type judge struct {
	p     api.Program
	made  []made
	asked []func() []api.Fault
	count int // of blocks, functions and moments: each has a number of its own
}

type made struct {
	name             string
	fn, block, since int
}

// spot is where something stands: in a function, in blocks, of which some are scopes.
type spot struct {
	fn     int
	blocks []int
	scoped bool
}

func (j *judge) next() int {
	j.count++
	return j.count
}

// within is a spot in one block more.
func (j *judge) within(s spot) spot {
	s.blocks = append(slices.Clone(s.blocks), j.next())
	return s
}

func (j *judge) ask(at int, right func() bool) { j.tell(api.ErrName, at, right) }

func (j *judge) tell(err api.Errno, at int, right func() bool) {
	j.asked = append(j.asked, func() []api.Fault {
		if right() {
			return nil
		}
		return []api.Fault{{Err: err, At: at}}
	})
}

// make writes down a variable of the innermost block.
func (j *judge) make(s spot, name string) made {
	m := made{name, s.fn, s.blocks[len(s.blocks)-1], j.next()}
	j.made = append(j.made, m)
	return m
}

// makes writes down one, and asks whether its name was free.
func (j *judge) makes(s spot, at int, name string) {
	m := j.make(s, name)
	j.ask(at, func() bool {
		return !slices.ContainsFunc(j.made, func(o made) bool { return o.fn == m.fn && o.name == name && o.since < m.since })
	})
}

// seen asks of now, as far as it comes to what was made ahead.
func (j *judge) seen(s spot, name string) func() bool {
	now := j.next()
	return func() bool {
		return slices.ContainsFunc(j.made, func(o made) bool {
			return o.fn == s.fn && o.name == name && o.since < now && slices.Contains(s.blocks, o.block)
		})
	}
}

// first is the first item of that name, among functions or among the others.
func (j *judge) first(fn bool, name string) (api.Item, int) {
	i := slices.IndexFunc(j.p.Items, func(x api.Item) bool { return (x.Kind == api.IFn) == fn && x.Name == name })
	if i < 0 {
		return api.Item{}, i
	}
	return j.p.Items[i], i
}

// namesIn are the names of types in t.
func namesIn(t api.Type) []string {
	if t.Kind == api.TNamed {
		return []string{t.Name}
	}
	var all []string
	for _, x := range t.Args {
		all = append(all, namesIn(x)...)
	}
	return all
}

func (j *judge) types(at int, t api.Type) {
	for _, name := range namesIn(t) {
		j.ask(at, func() bool { _, i := j.first(false, name); return i >= 0 })
	}
}

func (j *judge) item(i int) {
	x := j.p.Items[i]
	j.ask(x.At, func() bool { _, first := j.first(x.Kind == api.IFn, x.Name); return first == i })
	for k, f := range x.Fields {
		j.ask(x.At, func() bool {
			return k == slices.IndexFunc(x.Fields, func(o api.Field) bool { return o.Name == f.Name })
		})
		j.types(x.At, f.Type)
	}
	j.types(x.At, x.Result)
	if x.Kind != api.IFn {
		return
	}
	s := j.within(spot{fn: j.next()})
	for _, f := range x.Fields {
		j.make(s, f.Name)
	}
	for _, y := range x.Body {
		j.statement(s, y)
	}
	j.expr(s, x.Return)
	j.full(s.fn, x.At)
}

func (j *judge) full(fn, at int) {
	j.tell(api.ErrFull, at, func() bool {
		n := 0
		for _, m := range j.made {
			if m.fn == fn {
				n++
			}
		}
		return n <= 60
	})
}

func (j *judge) expr(s spot, e api.Expr) {
	switch e.Op {
	case api.EUse, api.EShare, api.EMut, api.EGet, api.ESet, api.EClone, api.ELoad, api.EStore, api.EFetch, api.ESend, api.ERecv:
		j.ask(e.At, j.seen(s, e.Place.Name))
	case api.ECall:
		x, i := j.first(true, e.Name)
		j.ask(e.At, func() bool { return i >= 0 && len(x.Fields) == len(e.Args) })
	case api.EStruct:
		x, i := j.first(false, e.Name)
		var fields []string
		for _, f := range x.Fields {
			fields = append(fields, f.Name)
		}
		j.ask(e.At, func() bool { return i >= 0 && x.Kind == api.IStruct && slices.Equal(fields, e.Place.Path) })
	case api.EEnum:
		j.ask(e.At, func() bool { return j.variant(e.Name, e.Second, len(e.Args)) })
	}
	for _, x := range e.Args {
		j.expr(s, x)
	}
}

// variant says whether the enum has that variant, with so many payloads.
func (j *judge) variant(enum, name string, payloads int) bool {
	x, i := j.first(false, enum)
	if i < 0 || x.Kind != api.IEnum {
		return false
	}
	k := slices.IndexFunc(x.Fields, func(f api.Field) bool { return f.Name == name })
	return k >= 0 && (payloads == 0) == (x.Fields[k].Type.Kind == 0)
}

func (j *judge) body(s spot, l []api.Stmt) {
	for _, x := range l {
		j.statement(s, x)
	}
}

func (j *judge) statement(s spot, x api.Stmt) {
	for _, e := range x.Exprs {
		j.expr(s, e)
	}
	inner := j.within(s)
	switch x.Op {
	case api.SLet:
		j.makes(s, x.At, x.Name)
	case api.STake:
		y, i := j.first(false, x.Name)
		j.ask(x.At, func() bool { return i >= 0 && y.Kind == api.IStruct && len(y.Fields) == len(x.Names) })
		for _, name := range x.Names {
			j.makes(s, x.At, name)
		}
	case api.SChan:
		for _, name := range namesIn(x.Type) {
			j.ask(x.At, func() bool { _, i := j.first(false, name); return i >= 0 })
		}
		j.makes(s, x.At, x.Name)
		j.makes(s, x.At, x.Second)
	case api.SAssign:
		j.ask(x.At, j.seen(s, x.Place.Name))
	case api.SDrop:
		j.ask(x.At, j.seen(s, x.Name))
	case api.SLock:
		j.ask(x.At, j.seen(s, x.Place.Name))
		j.makes(inner, x.At, x.Name)
		j.body(inner, x.Body)
	case api.SMatch:
		j.match(s, x)
	case api.SSpawn:
		j.tell(api.ErrScope, x.At, func() bool { return s.scoped })
		inner = j.within(spot{fn: j.next()})
		for _, name := range x.Names {
			j.makes(inner, x.At, name)
		}
		j.body(inner, x.Body)
		j.full(inner.fn, x.At)
	case api.SIf, api.SWhile, api.SBlock:
		j.body(inner, x.Body)
		j.body(j.within(s), x.Else)
	case api.SScope:
		inner.scoped = true
		j.body(inner, x.Body)
	}
}

func (j *judge) match(s spot, x api.Stmt) {
	there := j.seen(s, x.Name)
	enum, i := j.first(false, x.Second)
	j.ask(x.At, func() bool {
		right := there() && i >= 0 && enum.Kind == api.IEnum
		for _, f := range enum.Fields {
			n := 0
			for _, a := range x.Arms {
				if a.Variant == f.Name {
					n++
				}
			}
			right = right && n == 1
		}
		for _, a := range x.Arms {
			right = right && j.variant(x.Second, a.Variant, len(a.Name))
		}
		return right
	})
	for _, a := range x.Arms {
		inner := j.within(s)
		if a.Name != "" {
			j.makes(inner, x.At, a.Name)
		}
		j.body(inner, a.Body)
	}
}

// judged is what Check has to answer.
func judged(p api.Program) []api.Fault {
	if !tree.Whole(p) {
		return []api.Fault{{Err: api.ErrArg}}
	}
	j := &judge{p: p}
	for i := range p.Items {
		j.item(i)
	}
	x, i := j.first(true, "main")
	j.tell(api.ErrMain, 0, func() bool { return i >= 0 && len(x.Fields) == 0 && x.Result.Kind == api.TInt })
	var all []api.Fault
	for _, ask := range j.asked {
		all = append(all, ask()...)
	}
	return all
}
