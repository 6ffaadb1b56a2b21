package names

import "weftway/api"

// checker goes through a whole program once, so that what it notes stands in the order in which it is to be told.
type checker struct {
	items  []api.Item
	firsts map[string]int // the number of the item that counts for a name
	faults []api.Fault
}

// makeChecker makes one for p. One map does for structs, enums and functions: no name is a type's name too.
func makeChecker(p api.Program) *checker {
	c := &checker{items: p.Items, firsts: make(map[string]int)}
	for i, x := range p.Items {
		if _, taken := c.firsts[x.Name]; !taken {
			c.firsts[x.Name] = i
		}
	}
	return c
}

// find is the item of that name, if it is of that kind.
func (c *checker) find(kind uint8, name string) (api.Item, bool) {
	i, ok := c.firsts[name]
	if !ok || c.items[i].Kind != kind {
		return api.Item{}, false
	}
	return c.items[i], true
}

func (c *checker) fault(err api.Errno, at int) {
	c.faults = append(c.faults, api.Fault{Err: err, At: at})
}

// must notes that a name is wrong, unless it is right.
func (c *checker) must(right bool, at int) {
	if !right {
		c.fault(api.ErrName, at)
	}
}

func (c *checker) mainRight() bool {
	x, ok := c.find(api.IFn, "main")
	return ok && len(x.Fields) == 0 && x.Result.Kind == api.TInt
}

func (c *checker) item(i int, x api.Item) {
	c.must(c.firsts[x.Name] == i, x.At)
	for j, field := range x.Fields {
		_, taken := fieldOf(x.Fields[:j], field.Name)
		c.must(!taken, x.At)
		c.must(c.typeRight(field.Type), x.At)
	}
	c.must(c.typeRight(x.Result), x.At)
	if x.Kind == api.IFn {
		c.function(x)
	}
}

// typeRight says whether the struct or enum is there that t is, or has at its innermost. A payload that isn't there is right too.
func (c *checker) typeRight(t api.Type) bool {
	for len(t.Args) > 0 {
		t = t.Args[0]
	}
	if t.Kind != api.TNamed {
		return true
	}
	_, ok := c.firsts[t.Name]
	return ok
}

// fieldOf is the first field of that name.
func fieldOf(l []api.Field, name string) (api.Field, bool) {
	for _, x := range l {
		if x.Name == name {
			return x, true
		}
	}
	return api.Field{}, false
}

// variantOf is the variant of that enum and name, and whether it has a payload.
func (c *checker) variantOf(enum, name string) (payload, ok bool) {
	x, ok := c.find(api.IEnum, enum)
	if !ok {
		return false, false
	}
	variant, ok := fieldOf(x.Fields, name)
	return variant.Type.Kind != 0, ok
}
