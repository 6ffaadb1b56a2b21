package names

import "weftway/api"

// statement goes through one, in the order: its expressions, itself, what it makes, what stands within it.
func (f *function) statement(s api.Stmt) {
	for _, e := range s.Exprs {
		f.expr(e)
	}
	if err := f.wrong(s); err != api.OK {
		f.fault(err, s.At)
	}
	switch s.Op {
	case api.SLet:
		f.add(s.At, s.Name)
	case api.STake:
		f.add(s.At, s.Names...)
	case api.SChan:
		f.add(s.At, s.Name, s.Second)
	case api.SMatch:
		f.arms(s)
	case api.SScope:
		f.scope(s)
	case api.SSpawn:
		f.spawn(s)
	case api.SLock:
		f.block(s.Body, s.At, s.Name)
	default:
		// All others but SIf, SWhile and SBlock have nothing in these.
		f.block(s.Body, s.At)
		f.block(s.Else, s.At)
	}
}

func (f *function) arms(s api.Stmt) {
	for _, arm := range s.Arms {
		if arm.Name == "" {
			f.block(arm.Body, s.At)
		} else {
			f.block(arm.Body, s.At, arm.Name)
		}
	}
}

func (f *function) scope(s api.Stmt) {
	f.scopes++
	f.block(s.Body, s.At)
	f.scopes--
}

// spawn goes through the body as a function that sees nothing of this one, neither its variables nor its scopes.
func (f *function) spawn(s api.Stmt) {
	body := f.makeFunction()
	body.block(s.Body, s.At, s.Names...)
	body.notTooMany(s.At)
}

// wrong is what is wrong with the statement itself.
func (f *function) wrong(s api.Stmt) api.Errno {
	right := true
	switch s.Op {
	case api.STake:
		x, ok := f.find(api.IStruct, s.Name)
		right = ok && len(x.Fields) == len(s.Names)
	case api.SAssign, api.SLock:
		right = f.sees(s.Place.Name)
	case api.SDrop:
		right = f.sees(s.Name)
	case api.SMatch:
		right = f.sees(s.Name) && f.armsRight(s)
	case api.SChan:
		right = f.typeRight(s.Type)
	case api.SSpawn:
		if f.scopes == 0 {
			return api.ErrScope
		}
	}
	if !right {
		return api.ErrName
	}
	return api.OK
}

// armsRight says whether the enum is there, each of its variants has just one arm, and no other has one; and an arm a name just where there is a payload.
func (f *function) armsRight(s api.Stmt) bool {
	x, ok := f.find(api.IEnum, s.Second)
	if !ok {
		return false
	}
	for _, variant := range x.Fields {
		if armsOf(s.Arms, variant.Name) != 1 {
			return false
		}
	}
	for _, arm := range s.Arms {
		payload, ok := f.variantOf(s.Second, arm.Variant)
		if !ok || payload != (arm.Name != "") {
			return false
		}
	}
	return true
}

func armsOf(arms []api.Arm, variant string) int {
	n := 0
	for _, arm := range arms {
		if arm.Variant == variant {
			n++
		}
	}
	return n
}
