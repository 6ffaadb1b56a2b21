package typing

import (
	"strconv"
	"strings"

	"weftway/api"
)

// dice throws the same numbers each time.
type dice uint64

func (d *dice) below(n int) int {
	x := *d
	x ^= x << 13
	x ^= x >> 7
	x ^= x << 17
	*d = x
	return int(x>>11) % n
}

// maker makes programs whose names and tables are right, as are their types, but for one expression in so many (none, if wrong is 0). A variable's type is known to it as a row of words.
type maker struct {
	*dice
	wrong  int
	p      api.Program
	seen   []string // the variables that are there
	rows   map[string]string
	count  int // of variables of the function
	scoped bool
	at     int
	stuck  bool // there was no expression to be had of some row
}

func pick[T any](m *maker, list ...T) T { return list[m.below(len(list))] }

func (m *maker) slips() bool { return m.wrong > 0 && m.below(m.wrong) == 0 }

func (m *maker) place() int {
	m.at += 1 + m.below(3)
	return m.at
}

// owned is a row of a type that may stand in a field.
func (m *maker) owned(levels int) string {
	if levels == 0 || m.below(3) == 0 {
		return pick(m, "int", "int", "bool", "unit", "S0", "S1", "S2", "E0", "E1", "Atomic", "Cell int", "Cell bool")
	}
	return pick(m, "Box", "Box", "Rc", "Arc", "Mutex", "Sender", "Receiver") + " " + m.owned(levels-1)
}

// row is one of a type that may stand.
func (m *maker) row() string {
	return pick(m, "", "", "", "ref ", "mut ", "mut ref ", "ref mut ") + m.owned(2)
}

func (m *maker) fields(n int, letter string, row func() string) []api.Field {
	var all []api.Field
	for i := range n {
		all = append(all, api.Field{Name: letter + strconv.Itoa(i), Type: typeOf(row())})
	}
	return all
}

// kept is a row of a field of the item of that number: of those ahead alone, unless it is boxed.
func (m *maker) kept(i int) func() string {
	return func() string {
		row := m.owned(2)
		for k, name := range []string{"S0", "S1", "S2", "E0", "E1"} {
			if row == name && k >= i {
				return pick(m, "Box ", "Rc ") + row
			}
		}
		return row
	}
}

func (m *maker) program() api.Program {
	m.at, m.p, m.stuck = 10+m.below(50), api.Program{}, false
	for i := range 3 {
		m.p.Items = append(m.p.Items, api.Item{Kind: api.IStruct, Name: "S" + strconv.Itoa(i), Fields: m.fields(m.below(4), "f", m.kept(i)), At: m.place()})
	}
	for i := range 2 {
		fields := m.fields(1+m.below(3), "V", m.kept(3+i))
		if m.below(2) == 0 {
			fields[0].Type = api.Type{}
		}
		m.p.Items = append(m.p.Items, api.Item{Kind: api.IEnum, Name: "E" + strconv.Itoa(i), Fields: fields, At: m.place()})
	}
	m.p.Items = append(m.p.Items, api.Item{Kind: api.IFn, Name: "main", Result: typeOf("int"), At: m.place()})
	for i := range 1 + m.below(4) {
		x := api.Item{Kind: api.IFn, Name: "f" + strconv.Itoa(i), Fields: m.fields(m.below(5), "v", m.row), Result: typeOf(m.owned(2)), At: m.place()}
		m.p.Items = append(m.p.Items, x)
	}
	for i, x := range m.p.Items {
		if x.Kind == api.IFn {
			// Functions may be made meanwhile.
			body, last := m.body(x)
			m.p.Items[i].Body, m.p.Items[i].Return = body, last
		}
	}
	return m.p
}

func (m *maker) body(x api.Item) ([]api.Stmt, api.Expr) {
	m.seen, m.rows, m.count, m.scoped = nil, map[string]string{}, len(x.Fields), false
	for _, f := range x.Fields {
		m.see(f.Name, words(f.Type))
	}
	var all []api.Stmt
	for range 2 + m.below(7) {
		all = append(all, m.statement(4))
	}
	return all, m.total(words(x.Result), 3)
}

func (m *maker) see(name, row string) {
	m.seen, m.rows[name] = append(m.seen, name), row
}

// fresh makes a variable of that row.
func (m *maker) fresh(row string) string {
	name := "v" + strconv.Itoa(m.count)
	m.count++
	m.see(name, row)
	return name
}

// spot is a place that there is.
type spot struct {
	place    api.Place
	row      string
	writable bool
}

// spots are those up to three steps from a few of the variables.
func (m *maker) spots() []spot {
	j := judge{p: m.p}
	var all []spot
	few := m.seen
	if len(few) > 8 {
		few = few[m.below(len(few)-7):][:8]
	}
	for _, name := range few {
		all = append(all, spot{api.Place{Name: name}, m.rows[name], true})
	}
	for i := 0; i < len(all); i++ {
		for _, step := range []string{"*", "f0", "f1", "f2"} {
			if to, shared := j.step(all[i].row, step); to != "" && len(all[i].place.Path) < 3 {
				path := append(append([]string{}, all[i].place.Path...), step)
				all = append(all, spot{api.Place{Name: all[i].place.Name, Path: path}, to, all[i].writable && !shared})
			}
		}
	}
	return all
}

// spot is one of those that are as asked for.
func (m *maker) spot(asked func(s spot) bool) (spot, bool) {
	var all []spot
	for _, s := range m.spots() {
		if asked(s) {
			all = append(all, s)
		}
	}
	if len(all) == 0 {
		return spot{}, false
	}
	return all[m.below(len(all))], true
}

// spotOf is a place of that row.
func (m *maker) spotOf(row string) (api.Place, bool) {
	s, ok := m.spot(func(s spot) bool { return s.row == row })
	if ok && m.slips() {
		s.place.Path = append(s.place.Path, pick(m, "*", "f1", "f9"))
	}
	return s.place, ok
}

// total is an expression of that row.
func (m *maker) total(row string, levels int) api.Expr {
	if m.slips() {
		row = m.row()
	}
	for range 12 {
		if e, ok := m.expr(row, levels); ok {
			return e
		}
	}
	return m.endless(row)
}

// endless is a call of a function that has that row for its result; it is made, if there is none.
func (m *maker) endless(row string) api.Expr {
	for _, x := range m.p.Items {
		if x.Kind == api.IFn && len(x.Fields) == 0 && words(x.Result) == row {
			return api.Expr{Op: api.ECall, Name: x.Name, At: m.place()}
		}
	}
	if !isOwned(row) || len(m.p.Items) == api.MaxItems {
		m.stuck = true
		return api.Expr{Op: api.EUnit, At: m.place()}
	}
	x := api.Item{Kind: api.IFn, Name: "g" + strconv.Itoa(len(m.p.Items)), Result: typeOf(row), At: m.place()}
	x.Return = api.Expr{Op: api.ECall, Name: x.Name, At: m.place()}
	m.p.Items = append(m.p.Items, x)
	return x.Return
}

func (m *maker) args(l []api.Field, levels int, lent bool) []api.Expr {
	var all []api.Expr
	for _, f := range l {
		e := m.total(words(f.Type), levels)
		if lent {
			e = m.lent(words(f.Type), levels)
		}
		all = append(all, e)
	}
	return all
}

// lent is an expression of that row where one may be lent.
func (m *maker) lent(row string, levels int) api.Expr {
	word, rest, _ := strings.Cut(row, " ")
	slip := m.slips()
	switch {
	case word == "ref" && m.below(3) > 0:
		if x, ok := m.spotOf(rest); ok {
			return api.Expr{Op: api.EShare, Place: x, At: m.place()}
		}
	case word == "mut" && m.below(3) > 0 || slip:
		if s, ok := m.spot(func(s spot) bool { return slip || s.row == rest && s.writable }); ok {
			return api.Expr{Op: api.EMut, Place: s.place, At: m.place()}
		}
	}
	return m.total(row, levels)
}

// expr is an expression of that row, if the dice find one.
func (m *maker) expr(row string, levels int) (api.Expr, bool) {
	if levels <= 0 || m.below(3) == 0 {
		slip := m.slips()
		s, ok := m.spot(func(s spot) bool { return s.row == row && (slip || len(s.place.Path) == 0 || isCopied(row)) })
		if ok {
			return api.Expr{Op: api.EUse, Place: s.place, At: m.place()}, true
		}
		return m.literal(row, levels)
	}
	e := api.Expr{At: m.place()}
	switch pick(m, 0, 1, 2, 3, 4, 5, 5, 5) {
	case 0:
		return m.atPlace(e, pick(m, api.EGet, api.ERecv), row)
	case 1:
		e.Op, e.Args = api.EUnbox, []api.Expr{m.total("Box "+row, levels-1)}
		return e, isOwned(row)
	case 2:
		e.Op, e.Args = api.EOpen, []api.Expr{m.total("Mutex "+row, levels-1)}
		return e, isOwned(row)
	case 3:
		x := m.p.Items[m.below(len(m.p.Items))]
		if x.Kind != api.IFn || words(x.Result) != row {
			return e, false
		}
		e.Op, e.Name, e.Args = api.ECall, x.Name, m.args(x.Fields, levels-1, true)
		return e, true
	case 4:
		return m.atPlace(e, api.EClone, row)
	}
	return m.literal(row, levels)
}

// atPlace is one at a place of some kind, of which the row is what stands there (or the place's own).
func (m *maker) atPlace(e api.Expr, op uint8, row string) (api.Expr, bool) {
	ahead := map[uint8]string{api.EGet: "Cell ", api.ERecv: "Receiver ", api.EClone: ""}[op]
	slip := m.slips()
	s, ok := m.spot(func(s spot) bool { return slip || s.row == ahead+row })
	word, _, more := strings.Cut(row, " ")
	if op == api.EClone {
		ok = ok && more && (slip || strings.Contains("Rc Arc Sender Receiver", word))
	}
	e.Op, e.Place = op, s.place
	return e, ok
}

// literal is an expression of that row that begins with its outermost word.
func (m *maker) literal(row string, levels int) (api.Expr, bool) {
	e := api.Expr{At: m.place()}
	word, rest, _ := strings.Cut(row, " ")
	switch word {
	case "int", "bool", "unit":
		return m.plain(e, word, levels), true
	}
	if levels < 0 || levels == 0 && m.below(8) > 0 {
		return e, false
	}
	switch word {
	case "Box", "Rc", "Arc", "Mutex", "Cell":
		e.Op = map[string]uint8{"Box": api.EBox, "Rc": api.ERc, "Arc": api.EArc, "Mutex": api.EMutex, "Cell": api.ECell}[word]
		if s, ok := m.spot(func(s spot) bool { return !isOwned(s.row) && len(s.place.Path) == 0 }); ok && m.slips() {
			e.Args = []api.Expr{{Op: api.EUse, Place: s.place, At: m.place()}}
			return e, true
		}
		e.Args = []api.Expr{m.total(rest, levels-1)}
		return e, true
	case "Atomic":
		e.Op, e.Args = api.EAtomic, []api.Expr{m.total("int", levels-1)}
		return e, true
	case "S0", "S1", "S2":
		e.Op, e.Name = api.EStruct, word
		x := judge{p: m.p}.item(api.IStruct, word)
		e.Args = m.args(x.Fields, min(levels, 2)-1, false)
		for _, f := range x.Fields {
			e.Place.Path = append(e.Place.Path, f.Name)
		}
		return e, true
	case "E0", "E1":
		x := judge{p: m.p}.item(api.IEnum, word)
		f := x.Fields[m.below(len(x.Fields))]
		e.Op, e.Name, e.Second = api.EEnum, word, f.Name
		if f.Type.Kind != 0 {
			e.Args = m.args([]api.Field{f}, min(levels, 2)-1, false)
		}
		return e, true
	}
	return e, false
}

// plain is an int, a bool, a unit, computed or not.
func (m *maker) plain(e api.Expr, word string, levels int) api.Expr {
	e.Op = map[string]uint8{"int": api.EInt, "bool": api.EBool, "unit": api.EUnit}[word]
	if levels <= 0 || m.below(3) == 0 {
		return e
	}
	op := pick(m, api.ENeg, api.EAdd, api.ESub, api.EMul, api.EDiv, api.EMod, api.ELoad, api.EFetch)
	switch word {
	case "bool":
		op = pick(m, api.ENot, api.ELess, api.EEqual, api.EAnd, api.EOr)
	case "unit":
		op = pick(m, api.ESet, api.EStore, api.ESend)
	}
	side, ahead := "int", ""
	switch op {
	case api.ENot, api.EAnd, api.EOr:
		side = "bool"
	case api.ELoad, api.EStore, api.EFetch:
		ahead = "Atomic"
	case api.ESet:
		ahead = "Cell "
	case api.ESend:
		ahead = "Sender "
	}
	if ahead != "" {
		slip := m.slips()
		s, ok := m.spot(func(s spot) bool { return slip || strings.HasPrefix(s.row, ahead) })
		if !ok {
			return e
		}
		e.Place = s.place
		if ahead != "Atomic" {
			side = strings.TrimPrefix(s.row, ahead)
		}
	}
	e.Op = op
	if op != api.ELoad {
		e.Args = []api.Expr{m.total(side, levels-1)}
	}
	if op >= api.EAdd && op <= api.EOr {
		e.Args = append(e.Args, m.total(side, levels-1))
	}
	return e
}

// block is one's statements: what they make is gone behind it.
func (m *maker) block(levels int) []api.Stmt {
	seen := len(m.seen)
	var all []api.Stmt
	if levels > 0 {
		for range m.below(4) {
			all = append(all, m.statement(levels-1))
		}
	}
	m.seen = m.seen[:seen:seen]
	return all
}

// blockWith is one with a variable of its own.
func (m *maker) blockWith(row string, levels int) (string, []api.Stmt) {
	seen := len(m.seen)
	name := m.fresh(row)
	body := m.block(levels)
	m.seen = m.seen[:seen:seen]
	return name, body
}

func (m *maker) statement(levels int) api.Stmt {
	s := api.Stmt{Op: uint8(1 + m.below(13)), At: m.place()}
	if m.count > 45 {
		s.Op = api.SDo
	}
	switch s.Op {
	case api.STake:
		m.take(&s)
	case api.SAssign, api.SLock, api.SMatch, api.SDrop:
		m.ofPlace(&s, levels)
	case api.SDo:
		s.Exprs = []api.Expr{m.total(pick(m, "unit", m.owned(1)), 3)}
	case api.SIf:
		s.Exprs = []api.Expr{m.total("bool", 2)}
		s.Body, s.Else = m.block(levels), m.block(levels)
	case api.SWhile:
		s.Exprs = []api.Expr{m.total("bool", 2)}
		s.Body = m.block(levels)
	case api.SScope, api.SSpawn:
		m.scope(&s, levels)
	case api.SChan:
		row := m.owned(1)
		s.Type, s.Int, s.Name, s.Second = typeOf(row), int64(1+m.below(8)), m.fresh("Sender "+row), m.fresh("Receiver "+row)
	case api.SBlock:
		s.Body = m.block(levels)
	default:
		m.let(&s)
	}
	return s
}

func (m *maker) let(s *api.Stmt) {
	e, row := m.given(3)
	s.Op, s.Exprs = api.SLet, []api.Expr{e}
	s.Name = m.fresh(row)
}

// given is an expression for a variable, and the row that it has, whatever was asked for.
func (m *maker) given(levels int) (api.Expr, string) {
	stuck := m.stuck
	e := m.lent(m.row(), levels)
	if e.Op == api.EUnit {
		m.stuck = stuck
	}
	j := judge{m.p, m.rows, new([]api.Fault), nil}
	if row := j.expr(e); row != "" {
		return e, row
	}
	return e, "unit"
}

func (m *maker) take(s *api.Stmt) {
	s.Name = pick(m, "S0", "S1", "S2")
	s.Exprs = []api.Expr{m.total(s.Name, 2)}
	for _, f := range (judge{p: m.p}).item(api.IStruct, s.Name).Fields {
		s.Names = append(s.Names, m.fresh(words(f.Type)))
	}
}

// ofPlace makes of s one with a place, if there is one to be had; else a let.
func (m *maker) ofPlace(s *api.Stmt, levels int) {
	slip := m.slips()
	found, ok := m.spot(func(x spot) bool {
		switch s.Op {
		case api.SAssign:
			return slip || x.writable && isOwned(x.row)
		case api.SLock:
			return slip || strings.HasPrefix(x.row, "Mutex ")
		case api.SMatch:
			return len(x.place.Path) == 0 && (slip || x.row == "E0" || x.row == "E1")
		}
		return len(x.place.Path) == 0
	})
	switch {
	case !ok:
		m.let(s)
	case s.Op == api.SAssign:
		s.Place, s.Exprs = found.place, []api.Expr{m.total(found.row, 3)}
	case s.Op == api.SLock:
		_, part, _ := strings.Cut(found.row, " ")
		if !strings.HasPrefix(found.row, "Mutex ") {
			part = "unit"
		}
		s.Place = found.place
		s.Name, s.Body = m.blockWith("mut "+part, levels)
	case s.Op == api.SMatch:
		s.Name, s.Second = found.place.Name, found.row
		if found.row != "E0" && found.row != "E1" {
			s.Second = "E0"
		}
		m.arms(s, levels)
	default:
		s.Name = found.place.Name
	}
}

func (m *maker) arms(s *api.Stmt, levels int) {
	for _, f := range (judge{p: m.p}).item(api.IEnum, s.Second).Fields {
		arm := api.Arm{Variant: f.Name}
		if f.Type.Kind == 0 {
			arm.Body = m.block(levels)
		} else {
			arm.Name, arm.Body = m.blockWith(words(f.Type), levels)
		}
		s.Arms = append([]api.Arm{arm}, s.Arms...)
	}
}

// scope makes of s one, or where there is one a spawn.
func (m *maker) scope(s *api.Stmt, levels int) {
	s.Op = api.SSpawn
	if !m.scoped {
		s.Op, m.scoped = api.SScope, true
		s.Body = m.block(levels)
		m.scoped = false
		return
	}
	var given []string
	for range m.below(3) {
		e, row := m.given(2)
		s.Exprs, given = append(s.Exprs, e), append(given, row)
	}
	outer := *m
	m.seen, m.rows, m.count, m.scoped = nil, map[string]string{}, 0, false
	for _, row := range given {
		s.Names = append(s.Names, m.fresh(row))
	}
	s.Body = m.block(levels)
	m.seen, m.rows, m.count, m.scoped = outer.seen, outer.rows, outer.count, outer.scoped
}
