package show

import "weftway/api"

// writer writes what a program is made of: each method the tokens of one thing. The text that comes of it is the one that it embeds.
type writer struct{ text }

func (w *writer) program(p api.Program) {
	for _, x := range p.Items {
		w.item(x)
		w.endLine()
	}
}

func (w *writer) item(x api.Item) {
	switch x.Kind {
	case api.IStruct:
		w.put("struct", x.Name, "{")
		w.fields(x.Fields)
		w.put("}")
	case api.IEnum:
		w.put("enum", x.Name, "{")
		w.list(len(x.Fields), func(i int) { w.variant(x.Fields[i]) })
		w.put("}")
	case api.IFn:
		w.function(x)
	}
}

func (w *writer) function(x api.Item) {
	w.put("fn", x.Name, "(")
	w.fields(x.Fields)
	w.put(")", "->")
	w.typed(x.Result)
	w.put("{")
	w.statements(x.Body)
	w.expr(x.Return)
	w.put("}")
}

// fields writes a struct's fields, or a function's parameters.
func (w *writer) fields(list []api.Field) {
	w.list(len(list), func(i int) {
		w.put(list[i].Name, ":")
		w.typed(list[i].Type)
	})
}

func (w *writer) variant(v api.Field) {
	w.put(v.Name)
	if v.Type.Kind == 0 {
		return
	}
	w.put("(")
	w.typed(v.Type)
	w.put(")")
}
