package names

import (
	"strconv"

	"weftway/api"
)

// dice throws the same numbers each time.
type dice uint64

func (d *dice) below(n int) int {
	x := *d
	x ^= x << 13
	x ^= x >> 7
	x ^= x << 17
	*d = x
	return int(x>>11) % n
}

// maker makes programs whose names are right, but for one in so many (none, if wrong is 0). Each item, statement, expression has an At of its own.
type maker struct {
	*dice
	wrong     int
	structs   []api.Item
	enums     []api.Item
	functions []api.Item
	seen      []string // the variables that are there
	count     int      // of variables of the function
	scoped    bool
	full      bool // some function has got more variables than it may
	at        int
}

func (m *maker) place() int {
	m.at += 1 + m.below(3)
	return m.at
}

func (m *maker) slips() bool { return m.wrong > 0 && m.below(m.wrong) == 0 }

// fresh is a name for a variable, one that there is already if it slips.
func (m *maker) fresh() string {
	n := m.count
	if m.slips() {
		n = m.below(n + 1)
	}
	m.count++
	m.full = m.full || m.count > api.MaxVars
	return "v" + strconv.Itoa(n)
}

func (m *maker) variable() (string, bool) {
	if m.slips() {
		return "v" + strconv.Itoa(m.below(m.count+2)), true
	}
	if len(m.seen) == 0 {
		return "", false
	}
	return m.seen[m.below(len(m.seen))], true
}

func (m *maker) item(l []api.Item) api.Item {
	if len(l) == 0 || m.slips() {
		all := append(append(append([]api.Item{{Name: "Gone"}}, m.structs...), m.enums...), m.functions...)
		return all[m.below(len(all))]
	}
	return l[m.below(len(l))]
}

func (m *maker) typeName() string {
	l := append(append([]api.Item{}, m.structs...), m.enums...)
	if x := m.item(l); len(x.Name) > 0 && x.Name[0] <= 'Z' {
		return x.Name
	}
	return "Gone"
}

func (m *maker) typed(levels int) api.Type {
	kind := uint8(1 + m.below(14))
	switch {
	case kind == api.TNamed || levels > 2:
		if len(m.structs)+len(m.enums) == 0 && m.wrong == 0 {
			return api.Type{Kind: api.TInt}
		}
		return api.Type{Kind: api.TNamed, Name: m.typeName()}
	case kind <= api.TUnit || kind == api.TAtomic || levels == 0:
		return api.Type{Kind: api.TAtomic}
	}
	return api.Type{Kind: kind, Args: []api.Type{m.typed(levels - 1)}}
}

// args are n expressions, or one more or less if it slips.
func (m *maker) args(n, levels int, lent bool) []api.Expr {
	var all []api.Expr
	if m.slips() {
		n = min(api.MaxFields, max(0, n+m.below(3)-1))
	}
	for range n {
		all = append(all, m.side(levels, lent))
	}
	return all
}

func (m *maker) side(levels int, lent bool) api.Expr {
	e := m.expr(levels)
	if lent && e.Op == api.EUse {
		e.Op = api.EUse + uint8(m.below(3))
	}
	return e
}

func (m *maker) expr(levels int) api.Expr {
	e := api.Expr{Op: uint8(1 + m.below(36)), At: m.place()}
	if levels == 0 || e.Op == api.EShare || e.Op == api.EMut {
		e.Op = api.EUse
	}
	switch e.Op {
	case api.EInt, api.EBool, api.EUnit:
	case api.EUse, api.EGet, api.EClone, api.ELoad, api.ERecv:
		m.places(&e)
	case api.ESet, api.EStore, api.EFetch, api.ESend:
		if m.places(&e); e.Op != api.EUnit {
			e.Args = []api.Expr{m.expr(levels - 1)}
		}
	case api.EAdd, api.ESub, api.EMul, api.EDiv, api.EMod, api.ELess, api.EEqual, api.EAnd, api.EOr:
		e.Args = []api.Expr{m.expr(levels - 1), m.expr(levels - 1)}
	case api.ECall:
		x := m.item(m.functions)
		if e.Name = x.Name; x.Kind != api.IFn {
			e.Name = "gone"
		}
		e.Args = m.args(len(x.Fields), levels-1, true)
	case api.EStruct:
		m.structure(&e, levels)
	case api.EEnum:
		m.variant(&e, levels)
	default:
		e.Args = []api.Expr{m.expr(levels - 1)}
	}
	return e
}

// places gives e a place; if there is no variable, it becomes one that needs none.
func (m *maker) places(e *api.Expr) {
	name, ok := m.variable()
	if !ok {
		e.Op = api.EUnit
		return
	}
	e.Place.Name = name
	for range m.below(3) {
		e.Place.Path = append(e.Place.Path, []string{"*", "a", "v0"}[m.below(3)])
	}
}

func (m *maker) structure(e *api.Expr, levels int) {
	if len(m.structs) == 0 && m.wrong == 0 {
		e.Op = api.EUnit
		return
	}
	x := m.item(m.structs)
	if e.Name = x.Name; x.Kind == api.IFn {
		e.Name = "Gone"
	}
	e.Args = m.args(len(x.Fields), levels-1, false)
	for i := range e.Args {
		name := "f" + strconv.Itoa(i)
		if m.slips() {
			name = "f0"
		}
		e.Place.Path = append(e.Place.Path, name)
	}
}

func (m *maker) variant(e *api.Expr, levels int) {
	x := m.item(m.enums)
	if len(x.Fields) == 0 || x.Kind != api.IEnum {
		if m.wrong == 0 {
			e.Op = api.EUnit
			return
		}
		e.Name, e.Second = m.typeName(), "X"
		return
	}
	v := x.Fields[m.below(len(x.Fields))]
	e.Name, e.Second = x.Name, v.Name
	n := 0
	if v.Type.Kind != 0 {
		n = 1
	}
	e.Args = m.args(n, levels-1, false)
	e.Args = e.Args[:min(1, len(e.Args))]
}

// block is one's statements: what they make is gone behind it.
func (m *maker) block(levels int, names ...string) []api.Stmt {
	seen, scoped := m.seen, m.scoped
	m.seen = append(seen[:len(seen):len(seen)], names...)
	var all []api.Stmt
	if levels > 0 {
		for range m.below(4) {
			all = append(all, m.statement(levels-1))
		}
	}
	m.seen, m.scoped = seen, scoped
	if m.slips() && len(names) > 0 {
		m.seen = append(m.seen, names...)
	}
	return all
}

func (m *maker) statement(levels int) api.Stmt {
	s := api.Stmt{Op: uint8(1 + m.below(13)), At: m.place()}
	name, ok := m.variable()
	if !ok && (s.Op == api.SAssign || s.Op == api.SDrop || s.Op == api.SMatch || s.Op == api.SLock) {
		s.Op = api.SLet
	}
	if s.Op == api.STake && len(m.structs) == 0 || s.Op == api.SMatch && len(m.enums) == 0 {
		s.Op = api.SBlock
	}
	switch s.Op {
	case api.SLet:
		s.Exprs = []api.Expr{m.side(3, true)}
		s.Name = m.fresh()
		m.seen = append(m.seen, s.Name)
	case api.STake:
		m.take(&s)
	case api.SAssign:
		s.Place.Name, s.Exprs = name, []api.Expr{m.expr(2)}
	case api.SDo:
		s.Exprs = []api.Expr{m.expr(3)}
	case api.SDrop:
		s.Name = name
	case api.SIf:
		s.Exprs, s.Body, s.Else = []api.Expr{m.expr(2)}, m.block(levels), m.block(levels)
	case api.SWhile:
		s.Exprs, s.Body = []api.Expr{m.expr(2)}, m.block(levels)
	case api.SMatch:
		s.Name = name
		m.match(&s, levels)
	case api.SScope, api.SSpawn:
		m.scope(&s, levels)
	case api.SLock:
		s.Place.Name, s.Name = name, m.fresh()
		s.Body = m.block(levels, s.Name)
	case api.SChan:
		s.Type, s.Int, s.Name, s.Second = m.typed(2), 1, m.fresh(), m.fresh()
		m.seen = append(m.seen, s.Name, s.Second)
	case api.SBlock:
		s.Body = m.block(levels)
	}
	return s
}

func (m *maker) take(s *api.Stmt) {
	x := m.item(m.structs)
	if s.Name = x.Name; x.Kind == api.IFn {
		s.Name = "Gone"
	}
	s.Exprs = []api.Expr{m.expr(2)}
	n := len(x.Fields)
	if m.slips() {
		n = m.below(api.MaxFields + 1)
	}
	for range n {
		s.Names = append(s.Names, m.fresh())
	}
	m.seen = append(m.seen, s.Names...)
}

func (m *maker) match(s *api.Stmt, levels int) {
	x := m.item(m.enums)
	if s.Second = x.Name; x.Kind == api.IFn {
		s.Second = "Gone"
	}
	for i := range x.Fields {
		// From the last one on, as no order is asked for.
		v := x.Fields[len(x.Fields)-1-i]
		if m.slips() {
			v = x.Fields[0]
		}
		a := api.Arm{Variant: v.Name}
		if x.Kind != api.IEnum {
			a.Variant = "V0"
		}
		if (v.Type.Kind != 0) != m.slips() {
			a.Name = m.fresh()
			a.Body = m.block(levels, a.Name)
		} else {
			a.Body = m.block(levels)
		}
		s.Arms = append(s.Arms, a)
	}
}

// scope makes of s one, or where there is one a spawn.
func (m *maker) scope(s *api.Stmt, levels int) {
	s.Op = api.SSpawn
	if !m.scoped && !m.slips() {
		s.Op = api.SScope
		outer := m.scoped
		m.scoped = true
		s.Body = m.block(levels)
		m.scoped = outer
		return
	}
	for range m.below(3) {
		s.Exprs = append(s.Exprs, m.side(2, true))
	}
	outer := *m
	m.seen, m.count, m.scoped = nil, 0, false
	if m.slips() {
		m.seen = outer.seen
	}
	for range s.Exprs {
		s.Names = append(s.Names, m.fresh())
	}
	s.Body = m.block(levels, s.Names...)
	m.seen, m.count, m.scoped = outer.seen, outer.count, outer.scoped
}

// fields are n of them, called by that letter and a number.
func (m *maker) fields(n int, letter string) []api.Field {
	var all []api.Field
	for i := range n {
		if m.slips() {
			i = 0
		}
		all = append(all, api.Field{Name: letter + strconv.Itoa(i), Type: m.typed(3)})
		if letter == "V" && m.below(2) == 0 {
			all[len(all)-1].Type = api.Type{}
		}
	}
	return all
}

// names gives each of the items a name, that of another one if it slips.
func (m *maker) names(l []api.Item, letter string, kind uint8) {
	for i := range l {
		l[i].Kind, l[i].Name, l[i].At = kind, letter+strconv.Itoa(i), m.place()
		if m.slips() {
			l[i].Name = letter + strconv.Itoa(m.below(3))
		}
		if m.slips() && kind == api.IEnum {
			l[i].Name = "S0"
		}
	}
}

func (m *maker) program() api.Program {
	m.at, m.full = 10+m.below(50), false
	m.structs, m.enums = make([]api.Item, m.below(4)), make([]api.Item, m.below(4))
	m.functions = make([]api.Item, 1+m.below(4))
	m.names(m.structs, "S", api.IStruct)
	m.names(m.enums, "E", api.IEnum)
	m.names(m.functions, "f", api.IFn)
	for i := range m.structs {
		m.structs[i].Fields = m.fields(m.below(4), "f")
	}
	for i := range m.enums {
		m.enums[i].Fields = m.fields(m.below(4), "V")
	}
	for i := range m.functions {
		m.functions[i].Fields, m.functions[i].Result = m.fields(m.below(4), "v"), m.typed(3)
	}
	if i := m.below(len(m.functions)); !m.slips() {
		m.functions[i].Name, m.functions[i].Result = "main", api.Type{Kind: api.TInt}
		if !m.slips() {
			m.functions[i].Fields = nil
		}
	}
	for i := range m.functions {
		m.body(&m.functions[i])
	}
	return api.Program{Items: m.mixed(append(append(m.structs, m.enums...), m.functions...))}
}

func (m *maker) body(x *api.Item) {
	m.seen, m.count, m.scoped = nil, len(x.Fields), false
	for _, f := range x.Fields {
		m.seen = append(m.seen, f.Name)
	}
	for range m.below(8) {
		x.Body = append(x.Body, m.statement(4))
	}
	x.Return = m.expr(3)
}

// mixed is l in another order.
func (m *maker) mixed(l []api.Item) []api.Item {
	out := append([]api.Item{}, l...)
	for i := range out {
		k := i + m.below(len(out)-i)
		out[i], out[k] = out[k], out[i]
	}
	return out
}
