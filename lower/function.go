package lower

import (
	"slices"
	"strings"

	"weftway/api"
)

// function is one whose code is made.
type function struct {
	*maker
	slots map[string]int // of the variables
	made  int            // how many slots there are
	live  []int          // the slots that live, as they began to
	code  []api.Instr
}

func (f *function) add(x api.Instr) { f.code = append(f.code, x) }

// at is an instruction of a place.
func (f *function) at(op uint8, x api.Place) api.Instr {
	var path []string
	for _, step := range x.Path {
		path = append(path, strings.Clone(step))
	}
	return api.Instr{Op: op, A: f.slots[x.Name], Path: path}
}

// slot makes one, for the variable of that name.
func (f *function) slot(name string) int {
	n := f.made
	f.slots[name] = n
	f.made++
	return n
}

// begin lets a variable live.
func (f *function) begin(name string) int {
	n := f.slot(name)
	f.add(api.Instr{Op: api.OLive, A: n})
	f.live = append(f.live, n)
	return n
}

// give lets a variable live that has what the stack has last.
func (f *function) give(name string) {
	n := f.begin(name)
	f.add(api.Instr{Op: api.OPut, A: n})
}

// end lets all that live die but the first n.
func (f *function) end(n int) {
	for _, slot := range slices.Backward(f.live[n:]) {
		f.add(api.Instr{Op: api.ODead, A: slot})
	}
	f.live = f.live[:n]
}

// jump adds an instruction that jumps. Where to isn't known till the closure that is handed back is called: to what comes next then.
func (f *function) jump(op uint8) func() {
	at := len(f.code)
	f.add(api.Instr{Op: op})
	return func() { f.code[at].A = len(f.code) }
}

// choose adds the instruction that picks a variant's arm. The closure that is handed back is called where that of a variant begins.
func (f *function) choose(enum string) func(variant string) {
	at := len(f.code)
	slots := make([]int, len(f.variants(enum)))
	f.add(api.Instr{Op: api.OSwitch, Slots: slots, Name: strings.Clone(enum)})
	return func(variant string) { f.code[at].Slots[f.variant(enum, variant)] = len(f.code) }
}
