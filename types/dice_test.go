package types

import "weftway/api"

// dice throws the same numbers each time.
type dice uint64

func (d *dice) below(n int) int {
	x := *d
	x ^= x << 13
	x ^= x >> 7
	x ^= x << 17
	*d = x
	return int(x>>11) % n
}

// maker makes programs of structs and enums, some names of which are taken twice, and ways through them.
type maker struct {
	*dice
	kept bool // types stand in fields where chapter 7 lets them: none has a reference
}

func pick[T any](m *maker, list ...T) T { return list[m.below(len(list))] }

func (m *maker) table() string { return pick(m, "A", "B", "C", "D") }

func (m *maker) field() string { return pick(m, "a", "b", "c") }

// kind makes a type; within others it is no reference, where none may be.
func (m *maker) kind(deep int) api.Type {
	if deep == 0 || m.below(3) == 0 {
		if m.below(9) == 0 {
			return api.Type{Kind: pick(m, leaves()...)}
		}
		return named(m.table())
	}
	kind := pick(m, api.TBox, api.TBox, api.TBox, api.TMut, api.TMut, api.TRef, api.TRc, api.TArc, api.TCell, api.TMutex, api.TSender)
	switch {
	case m.kept && (kind == api.TRef || kind == api.TMut):
		return m.kind(deep - 1)
	case m.kept && kind == api.TCell:
		return within(kind, api.Type{Kind: api.TInt})
	}
	return within(kind, m.kind(deep-1))
}

func (m *maker) item() api.Item {
	x := api.Item{Kind: api.IStruct, Name: m.table(), At: m.below(100)}
	if m.below(6) == 0 {
		x.Kind = api.IEnum
	}
	for range m.below(7) {
		f := api.Field{Name: m.field(), Type: m.kind(4)}
		if x.Kind == api.IEnum {
			f.Name = pick(m, "V", "W")
		}
		x.Fields = append(x.Fields, f)
	}
	return x
}

func (m *maker) program() api.Program {
	var p api.Program
	for range 1 + m.below(8) {
		p.Items = append(p.Items, m.item())
	}
	return p
}

// path is a way that mostly leads somewhere: it is made along what a judge says.
func (m *maker) path(b book, text string, most int) []string {
	var out []string
	for range m.below(most + 1) {
		steps := b.stepsFrom(text)
		if len(steps) == 0 && m.below(8) > 0 {
			break
		}
		if len(steps) == 0 || m.below(40) == 0 {
			steps = []string{"*", "a", "c", "V", "x", ""}
		}
		step := pick(m, steps...)
		out = append(out, step)
		text, _ = b.step(text, step)
	}
	return out
}
