package lower

import (
	"strings"

	"weftway/api"
)

// makeWorks makes the table of what adds what a statement becomes, by its Op.
func makeWorks() [api.SBlock + 1]func(*function, api.Stmt) {
	return [...]func(*function, api.Stmt){
		api.SLet:    (*function).let,
		api.STake:   (*function).take,
		api.SAssign: (*function).assign,
		api.SDo:     (*function).do,
		api.SDrop:   (*function).drop,
		api.SIf:     (*function).fork,
		api.SWhile:  (*function).repeat,
		api.SMatch:  (*function).match,
		api.SScope:  (*function).scope,
		api.SSpawn:  (*function).spawn,
		api.SLock:   (*function).lock,
		api.SChan:   (*function).channel,
		api.SBlock:  (*function).inner,
	}
}

func (f *function) statements(l []api.Stmt) {
	for _, s := range l {
		// Code that is too long already is refused whatever comes: what is behind need not be held in memory.
		if len(f.code) > api.MaxCode {
			return
		}
		work := f.works[s.Op]
		work(f, s)
	}
}

// block adds a block, at the end of which dies what its statements made.
func (f *function) block(l []api.Stmt) {
	outer := len(f.live)
	f.statements(l)
	f.end(outer)
}

func (f *function) let(s api.Stmt) {
	f.exprs(s.Exprs)
	f.give(s.Name)
}

func (f *function) take(s api.Stmt) {
	f.exprs(s.Exprs)
	f.add(api.Instr{Op: api.OSplit, Name: strings.Clone(s.Name), B: len(s.Names)})
	for _, name := range s.Names {
		f.give(name)
	}
}

func (f *function) assign(s api.Stmt) {
	f.exprs(s.Exprs)
	f.add(f.at(api.ODrop, s.Place))
	f.add(f.at(api.OPut, s.Place))
}

// do gives the value to a variable without a name, so that it is dropped with that.
func (f *function) do(s api.Stmt) {
	f.exprs(s.Exprs)
	outer := len(f.live)
	f.give("")
	f.end(outer)
}

func (f *function) drop(s api.Stmt) { f.add(f.at(api.ODrop, api.Place{Name: s.Name})) }

func (f *function) fork(s api.Stmt) {
	f.exprs(s.Exprs)
	toElse := f.jump(api.OBranch)
	f.block(s.Body)
	toEnd := f.jump(api.OJump)
	toElse()
	f.block(s.Else)
	toEnd()
}

func (f *function) repeat(s api.Stmt) {
	condition := len(f.code)
	f.exprs(s.Exprs)
	toEnd := f.jump(api.OBranch)
	f.block(s.Body)
	f.add(api.Instr{Op: api.OJump, A: condition})
	toEnd()
}

func (f *function) match(s api.Stmt) {
	f.add(f.at(api.OUse, api.Place{Name: s.Name}))
	begins := f.choose(s.Second)
	var toEnds []func()
	for _, arm := range s.Arms {
		begins(arm.Variant)
		f.arm(arm)
		toEnds = append(toEnds, f.jump(api.OJump))
	}
	for _, toEnd := range toEnds {
		toEnd()
	}
}

func (f *function) arm(a api.Arm) {
	outer := len(f.live)
	if a.Name != "" {
		f.give(a.Name)
	}
	f.block(a.Body)
	f.end(outer)
}

func (f *function) scope(s api.Stmt) {
	f.add(api.Instr{Op: api.OScope})
	f.block(s.Body)
	f.add(api.Instr{Op: api.OJoin})
}

func (f *function) spawn(s api.Stmt) {
	f.exprs(s.Exprs)
	f.add(api.Instr{Op: api.OSpawn, A: len(f.bodies), B: len(s.Exprs)})
	f.bodies = append(f.bodies, body{"spawn", s.Names, s.Body, api.Expr{Op: api.EUnit}})
}

func (f *function) lock(s api.Stmt) {
	outer := len(f.live)
	lock := f.at(api.OLock, s.Place)
	lock.B = f.begin(s.Name)
	f.add(lock)
	f.block(s.Body)
	f.add(api.Instr{Op: api.OUnlock})
	f.end(outer)
}

// channel lets the receiver live first, as the stack has it last.
func (f *function) channel(s api.Stmt) {
	f.add(api.Instr{Op: api.OChan, Int: s.Int})
	f.give(s.Second)
	f.give(s.Name)
}

func (f *function) inner(s api.Stmt) { f.block(s.Body) }
