package names

import "weftway/api"

// function is what is known of one that is gone through, or of a spawn's body, which counts as one of its own.
type function struct {
	*checker
	variables map[string]variable // all that have been made
	here      []string            // the names of those that are there, in the order in which they were made
	made      int
	scopes    int // how many are open
}

// variable is what is known of those of one name: of a name that was taken there are several.
type variable struct {
	there int
}

func (c *checker) makeFunction() *function {
	return &function{checker: c, variables: make(map[string]variable)}
}

// function goes through an item's statements and its last expression, which sees what the statements made.
func (c *checker) function(x api.Item) {
	f := c.makeFunction()
	for _, parameter := range x.Fields {
		// Whether the name was free has been told with the item's fields.
		f.put(parameter.Name)
	}
	for _, s := range x.Body {
		f.statement(s)
	}
	f.expr(x.Return)
	f.notTooMany(x.At)
}

// put makes a variable, and says whether its name was free.
func (f *function) put(name string) bool {
	v, taken := f.variables[name]
	f.variables[name] = variable{there: v.there + 1}
	f.here = append(f.here, name)
	f.made++
	return !taken
}

// add makes the variables of a statement.
func (f *function) add(at int, names ...string) {
	for _, name := range names {
		f.must(f.put(name), at)
	}
}

// forget lets go all variables that are there but the first n.
func (f *function) forget(n int) {
	for _, name := range f.here[n:] {
		f.variables[name] = variable{there: f.variables[name].there - 1}
	}
	f.here = f.here[:n]
}

// sees says whether a variable of that name is there.
func (f *function) sees(name string) bool { return f.variables[name].there > 0 }

// block goes through statements; the names that are given are there in them alone, as is what they make.
func (f *function) block(l []api.Stmt, at int, names ...string) {
	defer f.forget(len(f.here))
	f.add(at, names...)
	for _, s := range l {
		f.statement(s)
	}
}

func (f *function) notTooMany(at int) {
	if f.made > api.MaxVars {
		f.fault(api.ErrFull, at)
	}
}
