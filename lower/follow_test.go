package lower

import (
	"maps"
	"reflect"
	"slices"
	"strconv"
	"strings"
	"testing"

	"weftway/api"
	"weftway/code"
	"weftway/tree"
)

// pops and pushes are how many values an instruction takes from the stack, and puts on it.
func popsPushes(u api.Unit, x api.Instr) (pops, pushes int) {
	switch x.Op {
	case api.OConst, api.OUse, api.ORef, api.OMut, api.OClone, api.OCellGet, api.OLoad, api.ORecv:
		return 0, 1
	case api.OPut, api.OBranch, api.OSwitch:
		return 1, 0
	case api.OUnary, api.OWrap, api.OUnwrap, api.OCellSet, api.OStore, api.OFetch, api.OSend, api.OReturn:
		return 1, 1
	case api.OBinary:
		return 2, 1
	case api.OStruct, api.OEnum, api.OCall:
		return x.B, 1
	case api.OSplit:
		return 1, x.B
	case api.OSpawn:
		return x.B, 0
	case api.OChan:
		return 0, 2
	}
	return 0, 0
}

// state is what there is ahead of an instruction.
type state struct {
	stack int
	open  string // what is to be closed, the last one last
}

// walker goes all ways through a function's code.
type walker struct {
	u      api.Unit
	f      api.Func
	states map[int]state
	wait   []int
	fault  string
}

func (w *walker) to(at int, s state) {
	if old, ok := w.states[at]; !ok {
		w.states[at] = s
		w.wait = append(w.wait, at)
	} else if old != s {
		w.fault = "two ways to " + strconv.Itoa(at)
	}
}

// walked are the states ahead of all instructions that are come to; and what is wrong.
func walked(u api.Unit, f api.Func) (map[int]state, string) {
	w := &walker{u: u, f: f, states: map[int]state{}}
	open := ""
	for i := range f.Params {
		open += " slot" + strconv.Itoa(i)
	}
	w.to(0, state{0, open})
	for len(w.wait) > 0 && w.fault == "" {
		at := w.wait[0]
		w.wait = w.wait[1:]
		if at == len(f.Code) {
			w.fault = "the end"
			break
		}
		w.step(at)
	}
	return w.states, w.fault
}

func (w *walker) step(at int) {
	x, s := w.f.Code[at], w.states[at]
	pops, pushes := popsPushes(w.u, x)
	if s.stack < pops {
		w.fault = "an empty stack at " + strconv.Itoa(at)
		return
	}
	s.stack += pushes - pops
	shut := func(what string) {
		if !strings.HasSuffix(s.open, " "+what) {
			w.fault = "not open at " + strconv.Itoa(at) + ": " + what
		}
		s.open = strings.TrimSuffix(s.open, " "+what)
	}
	slot := "slot" + strconv.Itoa(x.A)
	switch x.Op {
	case api.OLive:
		if slices.Contains(strings.Fields(s.open), slot) {
			w.fault = "alive at " + strconv.Itoa(at)
		}
		s.open += " " + slot
	case api.ODead:
		shut(slot)
	case api.OScope:
		s.open += " scope"
	case api.OJoin:
		shut("scope")
	case api.OLock:
		s.open += " lock"
	case api.OUnlock:
		shut("lock")
	case api.OReturn:
		if s != (state{1, ""}) {
			w.fault = "left at the end: " + strconv.Itoa(s.stack) + s.open
		}
		return
	case api.OJump:
		w.to(x.A, s)
		return
	case api.OBranch:
		w.to(x.A, s)
	case api.OSwitch:
		w.arms(x, s)
		return
	}
	w.to(at+1, s)
}

// arms goes on at each variant's arm, where a payload is on the stack if it has one.
func (w *walker) arms(x api.Instr, s state) {
	i := slices.IndexFunc(w.u.Types, func(t api.Item) bool { return t.Kind == api.IEnum && t.Name == x.Name })
	for k, at := range x.Slots {
		behind := s
		if w.u.Types[i].Fields[k].Type.Kind != 0 {
			behind.stack++
		}
		w.to(at, behind)
	}
}

// spawnsOf are how many there are in statements, at any depth.
func spawnsOf(l []api.Stmt) int {
	n := 0
	for _, s := range l {
		if s.Op == api.SSpawn {
			n++
		}
		n += spawnsOf(s.Body) + spawnsOf(s.Else)
		for _, arm := range s.Arms {
			n += spawnsOf(arm.Body)
		}
	}
	return n
}

// P18.2, P18.3: what is told may be, and has a function more for each spawn; on each way slots, scopes and locks are brackets, and the stack is empty between statements.
func TestBalanced(t *testing.T) {
	d := dice(3)
	bounds := 0
	for range 1200 {
		m := scribe{dice: &d}
		p := m.program()
		u, j, ok := agreed(t, p)
		if !ok {
			continue
		}
		functions, spawns := 0, 0
		for _, x := range p.Items {
			if x.Kind == api.IFn {
				functions++
				spawns += spawnsOf(x.Body)
			}
		}
		if code.May(u) != api.OK || len(u.Funcs) != functions+spawns {
			t.Fatal(code.May(u), len(u.Funcs), functions, spawns)
		}
		for i, f := range u.Funcs {
			states, fault := walked(u, f)
			if fault != "" {
				t.Fatal(f.Name, fault, textsOf(f.Code))
			}
			for _, at := range j.fns[i].bounds {
				if s, come := states[at]; come && s.stack != 0 {
					t.Fatal(f.Name, at, s)
				}
				bounds++
			}
		}
	}
	if bounds < 10000 {
		t.Error(bounds)
	}
}

// P18.3: no way is missed: what isn't come to stands behind an arm of an enum that has no variants.
func TestAllComeTo(t *testing.T) {
	u := lowered(t, "enum E { A, B(int) } fn main() -> int { let e = E.A; while true { if false { let a = 1; } else { let b = 2; } match e: E { B(k) => { scope { spawn (k = k) { } } } A => { lock e as g { chan<int>(1) as s, r; } } } } 1 }")
	for _, f := range u.Funcs {
		states, fault := walked(u, f)
		if fault != "" || len(states) != len(f.Code) {
			t.Error(f.Name, fault, len(states), len(f.Code))
		}
		if at := slices.Sorted(maps.Keys(states)); at[0] != 0 || at[len(at)-1] != len(f.Code)-1 {
			t.Error(at)
		}
	}
}

// P18.4: where things stand in the text changes nothing.
func TestPlaces(t *testing.T) {
	d := dice(4)
	for range 500 {
		m := scribe{dice: &d}
		p := m.program()
		u, e := Program(p)
		for range 2 {
			moved := tree.Copy(p)
			strewn(&d, reflect.ValueOf(&moved).Elem())
			if other, f := Program(moved); f != e || !reflect.DeepEqual(u, other) {
				t.Fatal(e, f)
			}
		}
		if other, f := Program(tree.Erase(p)); f != e || !reflect.DeepEqual(u, other) {
			t.Fatal(e, f)
		}
		for _, x := range u.Types {
			if x.At != 0 {
				t.Fatal(x)
			}
		}
	}
}

// strewn puts each At elsewhere.
func strewn(d *dice, v reflect.Value) {
	switch v.Kind() {
	case reflect.Slice:
		for i := range v.Len() {
			strewn(d, v.Index(i))
		}
	case reflect.Struct:
		for i := range v.NumField() {
			if v.Type().Field(i).Name == "At" {
				v.Field(i).SetInt(int64(d.below(1000) - 500))
			} else {
				strewn(d, v.Field(i))
			}
		}
	}
}
