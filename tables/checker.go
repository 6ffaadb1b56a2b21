package tables

import "weftway/api"

// checker goes through a whole program once, so that what it notes stands in the order in which it is to be told.
type checker struct {
	firsts map[string]api.Item // the struct or enum that counts for a name
	faults []api.Fault
}

func makeChecker(p api.Program) *checker {
	c := &checker{firsts: make(map[string]api.Item)}
	for _, x := range p.Items {
		if _, taken := c.firsts[x.Name]; isTable(x) && !taken {
			c.firsts[x.Name] = x
		}
	}
	return c
}

// isTable says whether an item is a struct or an enum.
func isTable(x api.Item) bool { return x.Kind == api.IStruct || x.Kind == api.IEnum }

// must notes a fault, unless all is right.
func (c *checker) must(right bool, err api.Errno, at int) {
	if !right {
		c.faults = append(c.faults, api.Fault{Err: err, At: at})
	}
}

func (c *checker) item(x api.Item) {
	if isTable(x) {
		c.table(x)
	} else {
		c.function(x)
	}
}

func (c *checker) table(x api.Item) {
	for _, field := range x.Fields {
		// The type of a variant without payload is none, and none may be kept.
		c.must(mayBeKept(field.Type), api.ErrTable, x.At)
	}
	c.must(!c.hasItself(x), api.ErrInfinite, x.At)
}

func (c *checker) function(x api.Item) {
	for _, parameter := range x.Fields {
		c.must(stands(parameter.Type), api.ErrTable, x.At)
	}
	c.must(mayBeKept(x.Result), api.ErrTable, x.At)
	c.statements(x.Body)
}

func (c *checker) statements(l []api.Stmt) {
	for _, s := range l {
		// Only that of a channel is a type: of all others it is none.
		c.must(mayBeKept(s.Type), api.ErrTable, s.At)
		c.statements(s.Body)
		c.statements(s.Else)
		for _, arm := range s.Arms {
			c.statements(arm.Body)
		}
	}
}

// hasItself says whether a row of structs and enums, each having the next one at once, leads from x to one of its name.
func (c *checker) hasItself(x api.Item) bool {
	gone := make(map[string]int) // by the name that a step leads to: how many were gone ahead of it
	found := false
	var follow func(from api.Item)
	follow = func(from api.Item) {
	look:
		for _, field := range from.Fields {
			// What isn't had at once has no name here, and so leads nowhere.
			next := field.Type.Name
			_, known := gone[next]
			switch {
			case found:
				break look
			case next == x.Name:
				found = true
				break look
			case !known:
				gone[next] = len(gone)
				follow(c.firsts[next])
			}
		}
	}
	follow(x)
	return found
}
