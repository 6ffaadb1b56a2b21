package parse

import "weftway/api"

func (r *reader) program() api.Program {
	var p api.Program
	for !r.atEnd() {
		p.Items = append(p.Items, r.item())
	}
	r.atMost(api.MaxItems, len(p.Items))
	return p
}

func (r *reader) item() api.Item {
	at := r.now().At
	var x api.Item
	switch r.now().Text {
	case "struct":
		x = r.structure()
	case "enum":
		x = r.enum()
	case "fn":
		x = r.function()
	default:
		r.fail()
	}
	x.At = at
	return x
}

func (r *reader) structure() api.Item {
	r.must("struct")
	x := api.Item{Kind: api.IStruct, Name: r.typeName()}
	r.must("{")
	x.Fields = list(r, "}", r.field)
	return x
}

func (r *reader) enum() api.Item {
	r.must("enum")
	x := api.Item{Kind: api.IEnum, Name: r.typeName()}
	r.must("{")
	x.Fields = list(r, "}", r.variant)
	return x
}

func (r *reader) function() api.Item {
	r.must("fn")
	x := api.Item{Kind: api.IFn, Name: r.name()}
	r.must("(")
	x.Fields = list(r, ")", r.field)
	r.must("->")
	x.Result = r.typed()
	x.Body, x.Return = r.body()
	return x
}

// field reads a struct's field, or a function's parameter.
func (r *reader) field() api.Field {
	name := r.name()
	r.must(":")
	return api.Field{Name: name, Type: r.typed()}
}

func (r *reader) variant() api.Field {
	v := api.Field{Name: r.typeName()}
	if r.may("(") {
		v.Type = r.typed()
		r.must(")")
	}
	return v
}
