package names

import (
	"slices"

	"weftway/api"
)

// expr goes through one, ahead of what it is made of.
func (f *function) expr(e api.Expr) {
	f.must(f.exprRight(e), e.At)
	for _, arg := range e.Args {
		f.expr(arg)
	}
}

// exprRight says whether the expression itself is right, whatever it is made of.
func (f *function) exprRight(e api.Expr) bool {
	switch e.Op {
	case api.ECall:
		x, ok := f.find(api.IFn, e.Name)
		return ok && len(x.Fields) == len(e.Args)
	case api.EStruct:
		x, ok := f.find(api.IStruct, e.Name)
		return ok && slices.EqualFunc(x.Fields, e.Place.Path, isNamed)
	case api.EEnum:
		payload, ok := f.variantOf(e.Name, e.Second)
		return ok && payload == (len(e.Args) > 0)
	}
	// Of all others just those that have a place have a name in it.
	return e.Place.Name == "" || f.sees(e.Place.Name)
}

func isNamed(x api.Field, name string) bool { return x.Name == name }
