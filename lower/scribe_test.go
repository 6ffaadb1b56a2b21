package lower

import (
	"strconv"

	"weftway/api"
)

// scribe makes programs whose names are right, of all that may stand in one; whose types are what comes.
type scribe struct {
	*dice
	structs, enums, functions []api.Item
	seen                      []string // the variables that are there
	count                     int      // of the function's, as they were made
	room                      int      // how many slots are left
	scoped                    bool
	spawns                    int // of the program
}

func (m *scribe) program() api.Program {
	m.structs, m.enums, m.functions, m.spawns = m.items("S", api.IStruct, m.below(4)), m.items("E", api.IEnum, m.below(4)), m.items("f", api.IFn, 1+m.below(4)), 0
	for i := range m.structs {
		m.structs[i].Fields = m.fields("n", m.below(7))
	}
	for i := range m.enums {
		m.enums[i].Fields = m.fields("V", m.below(7))
		for k := range m.enums[i].Fields {
			if m.below(2) == 0 {
				m.enums[i].Fields[k].Type = api.Type{}
			}
		}
	}
	for i := range m.functions {
		m.functions[i].Fields, m.functions[i].Result = m.fields("p", m.below(4)), m.typed(2)
	}
	at := m.below(len(m.functions))
	m.functions[at].Name, m.functions[at].Fields, m.functions[at].Result = "main", nil, api.Type{Kind: api.TInt}
	for i := range m.functions {
		m.function(&m.functions[i])
	}
	items := append(append(append([]api.Item{}, m.structs...), m.enums...), m.functions...)
	for i := range items {
		k := i + m.below(len(items)-i)
		items[i], items[k] = items[k], items[i]
		items[i].At = m.below(100)
	}
	return api.Program{Items: items}
}

func (m *scribe) items(name string, kind uint8, n int) []api.Item {
	l := make([]api.Item, n)
	for i := range l {
		l[i] = api.Item{Kind: kind, Name: name + strconv.Itoa(i)}
	}
	return l
}

func (m *scribe) fields(name string, n int) []api.Field {
	var l []api.Field
	for i := range n {
		l = append(l, api.Field{Name: name + string("cadbef"[i]), Type: m.typed(3)})
	}
	return l
}

func (m *scribe) typed(levels int) api.Type {
	if named := append(append([]api.Item{}, m.structs...), m.enums...); len(named) > 0 && m.below(3) == 0 {
		return api.Type{Kind: api.TNamed, Name: pick(m.dice, named...).Name}
	}
	if levels == 0 || m.below(3) == 0 {
		return api.Type{Kind: pick(m.dice, api.TInt, api.TBool, api.TUnit, api.TAtomic)}
	}
	kind := pick(m.dice, api.TBox, api.TCell, api.TRc, api.TArc, api.TMutex, api.TSender, api.TReceiver, api.TRef, api.TMut)
	return api.Type{Kind: kind, Args: []api.Type{m.typed(levels - 1)}}
}

func (m *scribe) function(x *api.Item) {
	m.seen, m.count, m.room, m.scoped = nil, 0, api.MaxVars-len(x.Fields), false
	for _, f := range x.Fields {
		m.seen = append(m.seen, f.Name)
	}
	for range m.below(9) {
		x.Body = append(x.Body, m.statement(3))
	}
	x.Return = m.expr(3)
}

// named is a new variable's name, that is there from now on.
func (m *scribe) named() string {
	name := "v" + strconv.Itoa(m.count)
	m.count++
	m.room--
	m.seen = append(m.seen, name)
	return name
}

func (m *scribe) place() api.Place {
	x := api.Place{Name: pick(m.dice, m.seen...)}
	for m.below(2) == 0 {
		x.Path = append(x.Path, pick(m.dice, "*", "*", "na", "nc", "other"))
	}
	return x
}

func (m *scribe) exprs(n, levels int) []api.Expr {
	var l []api.Expr
	for range n {
		l = append(l, m.expr(levels))
	}
	return l
}

// lendable are expressions that may be lent too.
func (m *scribe) lendable(n, levels int) []api.Expr {
	l := m.exprs(n, levels)
	for i := range l {
		if m.below(3) == 0 && len(m.seen) > 0 {
			l[i] = api.Expr{Op: pick(m.dice, api.EShare, api.EMut), Place: m.place(), At: m.below(100)}
		}
	}
	return l
}

func (m *scribe) expr(levels int) api.Expr {
	e := m.plain(levels)
	e.At = m.below(100)
	return e
}

func (m *scribe) plain(levels int) api.Expr {
	if levels == 0 || m.below(4) == 0 {
		return m.leaf()
	}
	switch op := api.ENeg + uint8(m.below(int(api.ERecv-api.ENeg+1))); op {
	case api.ENeg, api.ENot, api.EBox, api.EUnbox, api.ECell, api.ERc, api.EArc, api.EMutex, api.EOpen, api.EAtomic:
		return api.Expr{Op: op, Args: m.exprs(1, levels-1)}
	case api.ECall:
		x := pick(m.dice, m.functions...)
		return api.Expr{Op: op, Name: x.Name, Args: m.lendable(len(x.Fields), levels-1)}
	case api.EStruct:
		return m.structure(levels)
	case api.EEnum:
		return m.variant(levels)
	case api.EGet, api.EClone, api.ELoad, api.ERecv:
		if len(m.seen) > 0 {
			return api.Expr{Op: op, Place: m.place()}
		}
	case api.ESet, api.EStore, api.EFetch, api.ESend:
		if len(m.seen) > 0 {
			return api.Expr{Op: op, Place: m.place(), Args: m.exprs(1, levels-1)}
		}
	default:
		return api.Expr{Op: op, Args: m.exprs(2, levels-1)}
	}
	return m.leaf()
}

func (m *scribe) leaf() api.Expr {
	if len(m.seen) > 0 && m.below(2) == 0 {
		return api.Expr{Op: api.EUse, Place: m.place()}
	}
	switch m.below(3) {
	case 0:
		return api.Expr{Op: api.EBool, Int: int64(m.below(2))}
	case 1:
		return api.Expr{Op: api.EUnit}
	}
	return api.Expr{Op: api.EInt, Int: pick(m.dice, int64(m.below(100)), 1<<63-1, 0)}
}

func (m *scribe) structure(levels int) api.Expr {
	if len(m.structs) == 0 {
		return m.leaf()
	}
	x := pick(m.dice, m.structs...)
	return api.Expr{Op: api.EStruct, Name: x.Name, Place: api.Place{Path: namesOf(x.Fields)}, Args: m.exprs(len(x.Fields), levels-1)}
}

func (m *scribe) variant(levels int) api.Expr {
	if len(m.enums) == 0 {
		return m.leaf()
	}
	x := pick(m.dice, m.enums...)
	if len(x.Fields) == 0 {
		return m.leaf()
	}
	v := pick(m.dice, x.Fields...)
	e := api.Expr{Op: api.EEnum, Name: x.Name, Second: v.Name}
	if v.Type.Kind != 0 {
		e.Args = m.exprs(1, levels-1)
	}
	return e
}

func (m *scribe) statement(levels int) api.Stmt {
	s := m.made(levels)
	s.At = m.below(100)
	return s
}

func (m *scribe) made(levels int) api.Stmt {
	s := api.Stmt{Op: 1 + uint8(m.below(int(api.SBlock)))}
	if m.scoped && m.below(4) == 0 {
		s.Op = api.SSpawn
	}
	inner := levels > 0 && m.room > 20
	switch s.Op {
	case api.SLet, api.STake, api.SChan:
		if m.room > 10 {
			return m.maker(s)
		}
	case api.SAssign:
		if len(m.seen) > 0 {
			s.Exprs, s.Place = m.exprs(1, 2), m.place()
			return s
		}
	case api.SDrop:
		if len(m.seen) > 0 {
			s.Name = pick(m.dice, m.seen...)
			return s
		}
	case api.SMatch:
		if inner && len(m.seen) > 0 && len(m.enums) > 0 {
			return m.match(s, levels)
		}
	case api.SLock:
		if inner && len(m.seen) > 0 {
			s.Place = m.place()
			s.Body, s.Name = m.block(levels, true)
			return s
		}
	case api.SSpawn:
		if inner && m.scoped && m.spawns < 20 {
			return m.spawn(s, levels)
		}
	case api.SIf, api.SWhile, api.SScope, api.SBlock:
		if inner {
			return m.outer(s, levels)
		}
	}
	if m.room < 5 {
		return api.Stmt{Op: api.SBlock}
	}
	m.room--
	return api.Stmt{Op: api.SDo, Exprs: m.exprs(1, 3)}
}

// maker is a statement that makes variables.
func (m *scribe) maker(s api.Stmt) api.Stmt {
	switch {
	case s.Op == api.SChan:
		s.Type, s.Int = m.typed(2), int64(1+m.below(api.MaxQueue))
		s.Name, s.Second = m.named(), m.named()
		return s
	case s.Op == api.STake && len(m.structs) > 0:
		x := pick(m.dice, m.structs...)
		s.Name, s.Exprs = x.Name, m.exprs(1, 3)
		for range x.Fields {
			s.Names = append(s.Names, m.named())
		}
		return s
	}
	s.Op, s.Exprs = api.SLet, m.lendable(1, 3)
	s.Name = m.named()
	return s
}

func (m *scribe) outer(s api.Stmt, levels int) api.Stmt {
	scoped := m.scoped
	if s.Op == api.SScope {
		m.scoped = true
	}
	if s.Op == api.SIf || s.Op == api.SWhile {
		s.Exprs = m.exprs(1, 2)
	}
	s.Body, _ = m.block(levels, false)
	if s.Op == api.SIf && m.below(2) == 0 {
		s.Else, _ = m.block(levels, false)
	}
	m.scoped = scoped
	return s
}

// block is a block, in which a variable is there that is made for it, if that is asked for.
func (m *scribe) block(levels int, with bool) (l []api.Stmt, name string) {
	outer := len(m.seen)
	if with {
		name = m.named()
	}
	for range m.below(4) {
		l = append(l, m.statement(levels-1))
	}
	m.seen = m.seen[:outer:outer]
	return l, name
}

func (m *scribe) match(s api.Stmt, levels int) api.Stmt {
	x := pick(m.dice, m.enums...)
	s.Name, s.Second = pick(m.dice, m.seen...), x.Name
	order := append([]api.Field{}, x.Fields...)
	for i := range order {
		k := i + m.below(len(order)-i)
		order[i], order[k] = order[k], order[i]
	}
	for _, v := range order {
		body, name := m.block(levels, v.Type.Kind != 0)
		s.Arms = append(s.Arms, api.Arm{Variant: v.Name, Name: name, Body: body})
	}
	return s
}

// spawn is one; its body is a function of its own.
func (m *scribe) spawn(s api.Stmt, levels int) api.Stmt {
	m.spawns++
	s.Exprs = m.lendable(m.below(5), 2)
	outer := *m
	m.seen, m.count, m.room, m.scoped = nil, m.below(3), api.MaxVars, false
	for range s.Exprs {
		s.Names = append(s.Names, m.named())
	}
	s.Body, _ = m.block(levels, false)
	m.seen, m.count, m.room, m.scoped = outer.seen, outer.count, outer.room, outer.scoped
	return s
}
