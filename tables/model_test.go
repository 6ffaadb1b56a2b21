package tables

import (
	"reflect"
	"slices"
	"strings"

	"weftway/api"
	"weftway/show"
)

// A second judge: of types it reads the texts, and what leads to what it keeps as a table of all pairs.

// sortOf says of a type's text whether the type may stand, and whether it is owned too.
func sortOf(text string) (stands, kept bool) {
	words := strings.Fields(text)
	stands = len(words) > 0
	for i, w := range words {
		switch w {
		case "Cell":
			stands = stands && slices.Contains([]string{"int", "bool", "unit"}, words[i+2])
		case "Box", "Rc", "Arc", "Mutex", "Sender", "Receiver":
			stands = stands && !slices.Contains(words[i:], "&")
		}
	}
	return stands, stands && !slices.Contains(words, "&")
}

// leads is for each two structs or enums of a program whether there is a row from the one to the other.
func leads(p api.Program) [][]bool {
	n := len(p.Items)
	table := make([][]bool, n)
	for i, x := range p.Items {
		table[i] = make([]bool, n)
		for _, f := range x.Fields {
			if k := firstOf(p, f.Type.Name); k >= 0 && x.Kind != api.IFn {
				table[i][k] = true
			}
		}
	}
	for by := range n {
		for i := range n {
			for k := range n {
				table[i][k] = table[i][k] || table[i][by] && table[by][k]
			}
		}
	}
	return table
}

func firstOf(p api.Program, name string) int {
	return slices.IndexFunc(p.Items, func(x api.Item) bool { return x.Kind != api.IFn && x.Name == name })
}

// judged is what is wrong with a whole program, in its order.
func judged(p api.Program) []api.Fault {
	var out []api.Fault
	note := func(right bool, err api.Errno, at int) {
		if !right {
			out = append(out, api.Fault{Err: err, At: at})
		}
	}
	table := leads(p)
	for i, x := range p.Items {
		types := slices.Clone(x.Fields)
		if x.Kind == api.IFn {
			types = append(types, api.Field{Type: x.Result})
		}
		for k, f := range types {
			stands, kept := sortOf(show.Type(f.Type))
			isParameter := x.Kind == api.IFn && k < len(x.Fields)
			note(kept || isParameter && stands || x.Kind == api.IEnum && f.Type.Kind == 0, api.ErrTable, x.At)
		}
		channels(reflect.ValueOf(x.Body), func(s api.Stmt) {
			_, kept := sortOf(show.Type(s.Type))
			note(kept, api.ErrTable, s.At)
		})
		note(x.Kind == api.IFn || !table[i][firstOf(p, x.Name)], api.ErrInfinite, x.At)
	}
	return out
}

// channels hands on each SChan, whatever it stands in, by the order of the fields of api's types: a Body stands ahead of an Else, this ahead of Arms.
func channels(v reflect.Value, each func(api.Stmt)) {
	if s, ok := v.Interface().(api.Stmt); ok && s.Op == api.SChan {
		each(s)
	}
	switch v.Kind() {
	case reflect.Struct:
		for i := range v.NumField() {
			channels(v.Field(i), each)
		}
	case reflect.Slice:
		for i := range v.Len() {
			channels(v.Index(i), each)
		}
	}
}
