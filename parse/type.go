package parse

import (
	"weftway/api"
	"weftway/lex"
)

func (r *reader) typed() api.Type {
	if r.now().Kind == lex.TType {
		return api.Type{Kind: api.TNamed, Name: r.typeName()}
	}
	if r.may("&") {
		return r.reference()
	}
	kind, of := typeOf(r.now().Text)
	if kind == 0 {
		r.fail()
		return api.Type{}
	}
	r.next()
	if !of {
		return api.Type{Kind: kind}
	}
	r.must("<")
	x := api.Type{Kind: kind, Args: []api.Type{r.typed()}}
	r.must(">")
	return x
}

// reference reads what stands behind the & of a type.
func (r *reader) reference() api.Type {
	kind := api.TRef
	if r.may("mut") {
		kind = api.TMut
	}
	return api.Type{Kind: kind, Args: []api.Type{r.typed()}}
}

// typeOf tells the kind of the types that begin with that word, and whether it is of another type.
func typeOf(word string) (kind uint8, of bool) {
	switch word {
	case "int":
		return api.TInt, false
	case "bool":
		return api.TBool, false
	case "unit":
		return api.TUnit, false
	case "Atomic":
		return api.TAtomic, false
	case "Box":
		return api.TBox, true
	case "Cell":
		return api.TCell, true
	case "Rc":
		return api.TRc, true
	case "Arc":
		return api.TArc, true
	case "Mutex":
		return api.TMutex, true
	case "Sender":
		return api.TSender, true
	case "Receiver":
		return api.TReceiver, true
	}
	return 0, false
}
