package autos

import (
	"iter"

	"weftway/api"
	"weftway/tables"
)

// need is what a type is to be.
type need struct {
	send, sync bool
	never      bool // no type is that
}

// ask is one step of a row of rules: this type is to be so.
type ask struct {
	of   api.Type
	need need
}

// question is what a struct or an enum was asked for: only through these a row of rules comes back to where it was.
type question struct {
	name string
	need need
}

// holds says whether no row of rules leads from first to a never. What is still to be gone waits in a list, as a row may be as long as a program has names.
func holds(p api.Program, first ask) bool {
	asked := make(map[question]struct{})
	open := []ask{first}
	for len(open) > 0 {
		from := open[len(open)-1]
		open = open[:len(open)-1]
		for next := range asks(p, from) {
			if next.need.never {
				return false
			}
			if next.of.Kind == api.TNamed {
				q := question{next.of.Name, next.need}
				if _, known := asked[q]; known {
					continue
				}
				asked[q] = struct{}{}
			}
			open = append(open, next)
		}
	}
	return true
}

// asks tells what the rule of a type asks for, one after the other.
func asks(p api.Program, from ask) iter.Seq[ask] {
	return func(tell func(ask) bool) {
		next := rule(from.of.Kind, from.need)
		if next.never {
			tell(ask{need: next})
			return
		}
		for _, part := range parts(p, from.of) {
			if next == (need{}) || !tell(ask{part, next}) {
				return
			}
		}
	}
}

// parts are the types of which the rule of a type speaks.
func parts(p api.Program, t api.Type) []api.Type {
	if t.Kind != api.TNamed {
		return t.Args
	}
	fields, _ := tables.Fields(p, t.Name)
	out := make([]api.Type, len(fields))
	for i, field := range fields {
		out[i] = field.Type
	}
	return out
}

// rule is what each part of a type of that kind is to be, for the type to be so itself. Both of what an Arc asks for are asked at once, so that a row of Arcs isn't gone twice from each.
func rule(kind uint8, n need) need {
	switch kind {
	case api.TInt, api.TBool, api.TUnit, api.TAtomic, api.TNamed, api.TBox, api.TMut:
		return n
	case api.TCell:
		return need{send: n.send, never: n.sync}
	case api.TRc:
		return need{never: true}
	case api.TArc:
		return need{send: true, sync: true}
	case api.TMutex, api.TSender, api.TReceiver:
		return need{send: true}
	case api.TRef:
		return need{sync: true}
	}
	return need{} // what is no kind has no rule
}
