package autos

import "weftway/api"

// dice throws the same numbers each time.
type dice uint64

func (d *dice) below(n int) int {
	x := *d
	x ^= x << 13
	x ^= x >> 7
	x ^= x << 17
	*d = x
	return int(x>>11) % n
}

// maker makes programs of structs and enums, some names of which are taken twice.
type maker struct {
	*dice
	whole bool // nothing stands where it may not
}

func pick[T any](m *maker, list ...T) T { return list[m.below(len(list))] }

func (m *maker) name() string { return pick(m, names()...) }

func names() []string { return []string{"A", "B", "C", "D"} }

// kind makes a type: mostly one of which it isn't told at a look what it is.
func (m *maker) kind(deep int) api.Type {
	if deep == 0 || m.below(3) == 0 {
		if m.below(3) == 0 {
			return api.Type{Kind: pick(m, leaves()...)}
		}
		return named(m.name())
	}
	if m.below(9) == 0 {
		return within(pick(m, api.TRc, api.TCell, api.TCell), m.kind(deep-1))
	}
	kind := pick(m, api.TBox, api.TBox, api.TMut, api.TRef, api.TArc, api.TMutex, api.TSender, api.TReceiver)
	if !m.whole && m.below(8) == 0 {
		return m.odd(deep)
	}
	return within(kind, m.kind(deep-1))
}

// odd makes a type that isn't whole.
func (m *maker) odd(deep int) api.Type {
	t := api.Type{Kind: pick(m, 0, 77, api.TInt, api.TAtomic, api.TNamed, api.TBox, api.TCell, api.TMutex, api.TRef, api.TMut, api.TArc), Name: pick(m, "", "A", "E", "no")}
	if t.Kind == 0 {
		t.Kind = pick(m, around()...)
		return t
	}
	for range m.below(4) {
		t.Args = append(t.Args, m.kind(deep-1))
	}
	return t
}

func (m *maker) item() api.Item {
	x := api.Item{Kind: pick(m, api.IStruct, api.IStruct, api.IEnum), Name: m.name(), At: m.below(100)}
	for range m.below(6) {
		f := api.Field{Name: pick(m, "a", "b", "c"), Type: m.kind(4)}
		if x.Kind == api.IEnum {
			f.Name = pick(m, "V", "W")
		}
		if x.Kind == api.IEnum && m.below(4) == 0 {
			f.Type = api.Type{}
		}
		x.Fields = append(x.Fields, f)
	}
	return x
}

func (m *maker) program() api.Program {
	var p api.Program
	for range 1 + m.below(6) {
		x := m.item()
		if !m.whole && m.below(12) == 0 {
			x.Kind = pick(m, 0, api.IFn, 77)
		}
		p.Items = append(p.Items, x)
	}
	return p
}
