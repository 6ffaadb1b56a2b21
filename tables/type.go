package tables

import "weftway/api"

// owned says whether no reference is in a type.
func owned(t api.Type) bool {
	for _, arg := range t.Args {
		if !owned(arg) {
			return false
		}
	}
	return t.Kind != api.TRef && t.Kind != api.TMut
}

// stands says whether a whole type may stand.
func stands(t api.Type) bool {
	for _, arg := range t.Args {
		if !stands(arg) || !mayHave(t.Kind, arg) {
			return false
		}
	}
	return true
}

// mayHave says whether a type that may stand may do so within one of that kind.
func mayHave(kind uint8, arg api.Type) bool {
	switch kind {
	case api.TRef, api.TMut:
		return true
	case api.TCell:
		return arg.Kind == api.TInt || arg.Kind == api.TBool || arg.Kind == api.TUnit
	}
	return owned(arg)
}

// mayBeKept says whether a type may be that of a field, a payload, a result, or of what goes through a channel.
func mayBeKept(t api.Type) bool { return stands(t) && owned(t) }
