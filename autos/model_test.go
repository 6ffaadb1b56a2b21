package autos

import (
	"slices"

	"weftway/api"
)

// A second judge: it says something of each name, and mends that till it keeps to the rules.

const (
	toSend = iota
	toSync
)

// view is what is said of each struct's and enum's name: Send, Sync.
type view map[string][2]bool

// tableOf is for each name the types of the first struct or enum of that name.
func tableOf(p api.Program) map[string][]api.Type {
	out := map[string][]api.Type{}
	for _, x := range slices.Backward(p.Items) {
		if x.Kind != api.IStruct && x.Kind != api.IEnum {
			continue
		}
		out[x.Name] = nil
		for _, f := range x.Fields {
			out[x.Name] = append(out[x.Name], f.Type)
		}
	}
	return out
}

// all says whether each of these types is so.
func (v view) all(l []api.Type, what int) bool {
	return !slices.ContainsFunc(l, func(t api.Type) bool { return !v.says(t, what) })
}

// says reads the table of the rules, row by row.
func (v view) says(t api.Type, what int) bool {
	switch t.Kind {
	case api.TNamed:
		said, ok := v[t.Name]
		return !ok || said[what]
	case api.TInt, api.TBool, api.TUnit, api.TAtomic, api.TBox:
		return v.all(t.Args, what)
	case api.TCell:
		return what == toSend && v.all(t.Args, toSend)
	case api.TRc:
		return false
	case api.TArc:
		return v.all(t.Args, toSend) && v.all(t.Args, toSync)
	case api.TMutex, api.TSender, api.TReceiver:
		return v.all(t.Args, toSend)
	case api.TRef:
		return v.all(t.Args, toSync)
	case api.TMut:
		if what == toSend {
			return v.all(t.Args, toSend)
		}
		return v.all(t.Args, toSync)
	}
	return true
}

// judged is the greatest view: all is so, till a rule says otherwise.
func judged(p api.Program) view {
	table, v := tableOf(p), view{}
	for name := range table {
		v[name] = [2]bool{true, true}
	}
	for next := v.mended(table); !same(v, next); next = v.mended(table) {
		v = next
	}
	return v
}

// mended is what the rules make of a view.
func (v view) mended(table map[string][]api.Type) view {
	out := view{}
	for name, types := range table {
		out[name] = [2]bool{v.all(types, toSend), v.all(types, toSync)}
	}
	return out
}

func same(v, w view) bool {
	for name, said := range v {
		if w[name] != said {
			return false
		}
	}
	return len(v) == len(w)
}

// eachView hands on all views of these names.
func eachView(names []string, each func(v view)) {
	for number := range 1 << (2 * len(names)) {
		v := view{}
		for i, name := range names {
			v[name] = [2]bool{number>>(2*i)&1 > 0, number>>(2*i+1)&1 > 0}
		}
		each(v)
	}
}
