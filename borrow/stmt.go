package borrow

import (
	"weftway/api"
	"weftway/loans"
)

// makeWorks makes the table of what makes a statement's step, by its Op.
func (b *body) makeWorks() [api.SBlock + 1]func(api.Stmt) step {
	return [...]func(api.Stmt) step{
		api.SLet:    b.let,
		api.STake:   b.take,
		api.SAssign: b.assign,
		api.SDo:     b.do,
		api.SDrop:   b.drop,
		api.SIf:     b.choose,
		api.SWhile:  b.repeat,
		api.SMatch:  b.match,
		api.SScope:  b.scoped,
		api.SSpawn:  b.spawn,
		api.SLock:   b.lock,
		api.SChan:   b.channel,
		api.SBlock:  b.inner,
	}
}

func (b *body) let(s api.Stmt) step {
	given := b.exprs(s.Exprs)
	b.add(api.Field{Name: s.Name, Type: b.exprType(s.Exprs[0])})
	return row(given, set(s.Name))
}

func (b *body) take(s api.Stmt) step {
	given := b.exprs(s.Exprs)
	for i, field := range b.fieldsOf(s.Name) {
		b.add(api.Field{Name: s.Names[i], Type: field.Type})
	}
	return row(given, set(s.Names...))
}

func (b *body) assign(s api.Stmt) step {
	given := b.exprs(s.Exprs)
	if len(s.Place.Path) > 0 {
		return row(given, b.used(s.Place, loans.UWrite, s.At))
	}
	return row(given, b.free(s.Place, loans.UWrite, s.At), set(s.Place.Name))
}

func (b *body) do(s api.Stmt) step { return b.exprs(s.Exprs) }

func (b *body) drop(s api.Stmt) step { return b.gone(s, loans.UDrop) }

// gone is the step of a statement that leaves nothing in its variable.
func (b *body) gone(s api.Stmt, use uint8) step {
	return row(b.used(api.Place{Name: s.Name}, use, s.At), unset(s.Name))
}

func (b *body) choose(s api.Stmt) step {
	condition := b.exprs(s.Exprs)
	return row(condition, parted([]step{b.block(s.Body), b.block(s.Else)}))
}

// repeat goes round till nothing new comes to the loop's head; what was told by then doesn't count. A loop within another one goes on from the head that it had the last time, as what comes to it only grows from round to round of the other one: else the rounds of loops within one another would multiply.
func (b *body) repeat(s api.Stmt) step {
	condition, block := b.exprs(s.Exprs), b.block(s.Body)
	head := nowhere()
	return func(k known) known {
		counted := len(b.faults)
		for next := join(head, k); grown(next, head); next = join(head, block(condition(head))) {
			head = next
		}
		b.faults = b.faults[:counted]
		behind := condition(head)
		block(behind)
		return behind
	}
}

func (b *body) match(s api.Stmt) step {
	var ways []step
	for _, arm := range s.Arms {
		ways = append(ways, b.block(arm.Body, b.payload(s.Second, arm)...))
	}
	return row(b.gone(s, loans.UMove), parted(ways))
}

// payload is the variable that an arm has, if it has one.
func (b *body) payload(enum string, arm api.Arm) []api.Field {
	for _, variant := range b.fieldsOf(enum) {
		if variant.Name == arm.Variant && arm.Name != "" {
			return []api.Field{{Name: arm.Name, Type: variant.Type}}
		}
	}
	return nil
}

// scoped is the step of a scope's block: its end is that of what spawns in it have borrowed, too.
func (b *body) scoped(s api.Stmt) step {
	outer := b.scope
	b.scope = b.depth + 1
	block := b.block(s.Body)
	b.scope = outer
	return block
}

func (b *body) spawn(s api.Stmt) step {
	t := thread{body: s.Body}
	var steps []step
	for i, e := range s.Exprs {
		given := api.Field{Name: s.Names[i], Type: b.exprType(e)}
		t.params = append(t.params, given)
		steps = append(steps, b.handed(e, given.Type))
	}
	b.threads = append(b.threads, t)
	return row(steps...)
}

// handed is the step of an expression of a spawn's list: a reference is handed over only of a variable that lives since before the scope. Of one that doesn't just that is told: such a reference is no use of its place, so that nothing is moved, and nothing lent, by it.
func (b *body) handed(e api.Expr, t api.Type) step {
	switch {
	case isReference(t) && b.depths[e.Place.Name] >= b.scope:
		return b.alias(e.At)
	case isLent(e):
		return b.lent(e, b.scope)
	}
	return b.expr(e)
}

// alias tells that a variable dies too soon.
func (b *body) alias(at int) step {
	return func(k known) known {
		b.tell(api.ErrAlias, at)
		return k
	}
}

func (b *body) lock(s api.Stmt) step {
	mutex := b.placeType(s.Place)
	g := api.Field{Name: s.Name, Type: api.Type{Kind: api.TMut, Args: mutex.Args}}
	return row(b.used(s.Place, loans.UShare, s.At), lend(s.Place, false, b.depth+1), b.block(s.Body, g))
}

func (b *body) channel(s api.Stmt) step {
	of := []api.Type{s.Type}
	b.add(api.Field{Name: s.Name, Type: api.Type{Kind: api.TSender, Args: of}}, api.Field{Name: s.Second, Type: api.Type{Kind: api.TReceiver, Args: of}})
	return set(s.Name, s.Second)
}

func (b *body) inner(s api.Stmt) step { return b.block(s.Body) }
