package typing

import (
	"weftway/api"
	"weftway/types"
)

// plain is a type that has no name and no other type.
func plain(kind uint8) api.Type { return api.Type{Kind: kind} }

func named(name string) api.Type { return api.Type{Kind: api.TNamed, Name: name} }

// of is the type of that kind that has t.
func of(kind uint8, t api.Type) api.Type { return api.Type{Kind: kind, Args: []api.Type{t}} }

// hasPart says whether types of that kind have another one.
func hasPart(kind uint8) bool {
	switch kind {
	case api.TInt, api.TBool, api.TUnit, api.TNamed, api.TAtomic:
		return false
	}
	return true
}

// partOf is what a type of that kind has, if t is one. A field of a program that isn't whole may have the kind, and not what it asks for.
func partOf(kind uint8, t api.Type) (api.Type, bool) {
	if len(t.Args) != 1 || !types.Same(t, of(kind, t.Args[0])) {
		return api.Type{}, false
	}
	return t.Args[0], true
}

// mayBeCloned says whether a type is one of those that several own.
func mayBeCloned(t api.Type) bool {
	switch t.Kind {
	case api.TRc, api.TArc, api.TSender, api.TReceiver:
		_, ok := partOf(t.Kind, t)
		return ok
	}
	return false
}
