package tables

import "weftway/api"

// dice throws the same numbers each time.
type dice uint64

func (d *dice) below(n int) int {
	x := *d
	x ^= x << 13
	x ^= x >> 7
	x ^= x << 17
	*d = x
	return int(x>>11) % n
}

// maker makes programs of which only what this layer asks for is mixed: names of items are taken twice, types are whatever there is. Each item and statement has an At of its own.
type maker struct {
	*dice
	bare bool // no struct's or enum's name in a type
	at   int
}

func (m *maker) place() int {
	m.at += 1 + m.below(3)
	return m.at
}

func pick[T any](m *maker, list ...T) T { return list[m.below(len(list))] }

func (m *maker) name() string { return pick(m, "A", "B", "C", "D", "E", "F") }

func number() api.Expr { return api.Expr{Op: api.EInt} }

// leaf is a type that has no other one.
func (m *maker) leaf() api.Type {
	switch m.below(8) {
	case 0:
		return api.Type{Kind: api.TInt}
	case 1:
		return api.Type{Kind: api.TBool}
	case 2:
		return api.Type{Kind: api.TUnit}
	case 3:
		return api.Type{Kind: api.TAtomic}
	case 4:
		return api.Type{Kind: api.TNamed, Name: "Missing"}
	}
	return api.Type{Kind: api.TNamed, Name: m.name()}
}

func (m *maker) kind() api.Type {
	t := m.leaf()
	for m.bare && t.Kind == api.TNamed {
		t = m.leaf()
	}
	for m.below(3) == 0 {
		t = api.Type{Kind: pick(m, around()...), Args: []api.Type{t}}
	}
	return t
}

// around are the kinds of types that have another one.
func around() []uint8 {
	return []uint8{api.TBox, api.TCell, api.TRc, api.TArc, api.TMutex, api.TSender, api.TReceiver, api.TRef, api.TMut}
}

func (m *maker) fields(name string, payloads bool) []api.Field {
	var out []api.Field
	for range m.below(4) {
		f := api.Field{Name: name, Type: m.kind()}
		if payloads && m.below(3) == 0 {
			f.Type = api.Type{}
		}
		out = append(out, f)
	}
	return out
}

func (m *maker) item() api.Item {
	at := m.place()
	switch m.below(5) {
	case 0:
		return api.Item{
			Kind: api.IFn, Name: "f", At: at, Fields: m.fields("a", false), Result: m.kind(), Body: m.block(3), Return: number(),
		}
	case 1, 2:
		return api.Item{Kind: api.IEnum, Name: m.name(), At: at, Fields: m.fields("V", true)}
	}
	return api.Item{Kind: api.IStruct, Name: m.name(), At: at, Fields: m.fields("a", false)}
}

func (m *maker) block(deep int) []api.Stmt {
	var out []api.Stmt
	for range m.below(4) {
		out = append(out, m.statement(deep))
	}
	return out
}

func (m *maker) statement(deep int) api.Stmt {
	s := api.Stmt{At: m.place(), Op: pick(m, api.SChan, api.SChan, api.SLet, api.SIf, api.SWhile, api.SMatch, api.SScope, api.SSpawn, api.SLock, api.SBlock)}
	if deep == 0 {
		s.Op = api.SChan
	}
	switch s.Op {
	case api.SChan:
		s.Type, s.Int, s.Name, s.Second = m.kind(), 1, "s", "r"
		return s
	case api.SLet:
		s.Name, s.Exprs = "x", []api.Expr{number()}
		return s
	case api.SIf:
		s.Exprs, s.Else = []api.Expr{number()}, m.block(deep-1)
	case api.SWhile:
		s.Exprs = []api.Expr{number()}
	case api.SMatch:
		s.Name, s.Second = "x", "A"
		for range m.below(4) {
			s.Arms = append(s.Arms, api.Arm{Variant: "V", Body: m.block(deep - 1)})
		}
		return s
	case api.SSpawn:
		s.Names, s.Exprs = []string{"x"}, []api.Expr{number()}
	case api.SLock:
		s.Place, s.Name = api.Place{Name: "m"}, "g"
	}
	s.Body = m.block(deep - 1)
	return s
}

func (m *maker) program() api.Program {
	var p api.Program
	for range m.below(12) {
		p.Items = append(p.Items, m.item())
	}
	return p
}
