package show

import "weftway/api"

// typeWords are the words of types that have one.
var typeWords = [...]string{
	api.TInt: "int", api.TBool: "bool", api.TUnit: "unit", api.TAtomic: "Atomic",
	api.TBox: "Box", api.TCell: "Cell", api.TRc: "Rc", api.TArc: "Arc",
	api.TMutex: "Mutex", api.TSender: "Sender", api.TReceiver: "Receiver",
}

func (w *writer) typed(t api.Type) {
	switch t.Kind {
	case api.TNamed:
		w.put(t.Name)
	case api.TInt, api.TBool, api.TUnit, api.TAtomic:
		w.put(typeWords[t.Kind])
	case api.TRef:
		w.put("&")
		w.typed(t.Args[0])
	case api.TMut:
		w.put("&", "mut")
		w.typed(t.Args[0])
	default:
		w.put(typeWords[t.Kind], "<")
		w.typed(t.Args[0])
		w.put(">")
	}
}

func (w *writer) place(x api.Place) {
	w.put(x.Name)
	for _, step := range x.Path {
		w.put(".", step)
	}
}
