package code

import (
	"math"
	"slices"
	"strings"
	"testing"

	"weftway/api"
)

// told asks of each instruction that it may be, or may not be, in the function.
func told(t *testing.T, u api.Unit, fn int, want api.Errno, l ...api.Instr) {
	t.Helper()
	for _, x := range l {
		if e := Instr(u, fn, x); e != want {
			t.Errorf("%+v in %d: %v", x, fn, e)
		}
	}
}

// numbered are the same Op with each of these numbers in A.
func numbered(op uint8, numbers ...int) []api.Instr {
	var l []api.Instr
	for _, n := range numbers {
		l = append(l, api.Instr{Op: op, A: n})
	}
	return l
}

// P17.2: there is an Op for each of api's numbers, and no other one.
func TestOps(t *testing.T) {
	told(t, unit(), 0, api.OK, right()...)
	seen := map[uint8]bool{}
	for _, x := range right() {
		seen[x.Op] = true
	}
	for op := range 256 {
		if there := api.OLive <= uint8(op) && uint8(op) <= api.OJoin; seen[uint8(op)] != there {
			t.Error(op)
		} else if !there {
			told(t, unit(), 0, api.ErrCode, numbered(uint8(op), 0, 1, 2, 3)...)
		}
	}
}

// P17.2: a slot is from 0 on, and below the function's own Slots.
func TestSlots(t *testing.T) {
	ops := append(placeOps(), api.OLive, api.ODead, api.OLock)
	for fn, slots := range []int{3, 5, 1} {
		for _, op := range ops {
			told(t, unit(), fn, api.OK, numbered(op, 0, slots-1)...)
			told(t, unit(), fn, api.ErrCode, numbered(op, -1, slots, slots+1, math.MinInt, math.MaxInt)...)
		}
		for _, b := range []int{0, slots - 1} {
			told(t, unit(), fn, api.OK, api.Instr{Op: api.OLock, B: b})
		}
		for _, b := range []int{-1, slots, slots + 1, math.MinInt, math.MaxInt} {
			told(t, unit(), fn, api.ErrCode, api.Instr{Op: api.OLock, B: b})
		}
	}
}

// P17.2: of a function that may not be the Slots count as they are.
func TestOddSlots(t *testing.T) {
	u := unit()
	for _, slots := range []int{0, -1, math.MinInt} {
		u.Funcs[0].Slots = slots
		told(t, u, 0, api.ErrCode, numbered(api.OLive, 0, -1, slots, math.MinInt, math.MaxInt)...)
	}
	u.Funcs[0].Slots = 1000
	told(t, u, 0, api.OK, numbered(api.OLive, 0, api.MaxVars, 999)...)
	told(t, u, 0, api.ErrCode, numbered(api.OLive, 1000, -1)...)
}

// P17.2: a path has at most MaxDeep steps, each `*` or a name.
func TestPaths(t *testing.T) {
	may := [][]string{nil, {}, {"*"}, {"a"}, {"*", "*"}, {"a", "*", "b"}, {long(api.MaxName)}, {"a", long(api.MaxName), "*"}, {"A", "9", ".", "let", "**", " ", "\xff"}, slices.Repeat([]string{"*"}, api.MaxDeep), slices.Repeat([]string{"a"}, api.MaxDeep)}
	mayNot := [][]string{{""}, {"", "a"}, {"a", ""}, {"a", "", "*"}, {long(api.MaxName + 1)}, {"*", long(api.MaxName + 1)}, {strings.Repeat("é", api.MaxName/2) + "n"}, slices.Repeat([]string{"*"}, api.MaxDeep+1), slices.Repeat([]string{"a"}, api.MaxDeep+1), slices.Repeat([]string{"a"}, 100000)}
	for _, op := range append(placeOps(), api.OLock) {
		for _, p := range may {
			told(t, unit(), 0, api.OK, api.Instr{Op: op, Path: p})
		}
		for _, p := range mayNot {
			told(t, unit(), 0, api.ErrCode, api.Instr{Op: op, Path: p})
		}
	}
}

// P17.2: a jump is from 0 to how many instructions the function has.
func TestJumpsInside(t *testing.T) {
	for fn, n := range []int{4, 6, 0} {
		for _, op := range []uint8{api.OJump, api.OBranch} {
			told(t, unit(), fn, api.OK, numbered(op, 0, n/2, n)...)
			told(t, unit(), fn, api.ErrCode, numbered(op, -1, n+1, math.MinInt, math.MaxInt)...)
		}
		for _, slots := range [][]int{nil, {}, {0}, {n}, {n, 0, n, n, 0}, {0, n, 0, n, 0, n}} {
			told(t, unit(), fn, api.OK, api.Instr{Op: api.OSwitch, Slots: slots, Name: "E"})
		}
		for _, slots := range [][]int{{-1}, {n + 1}, {0, n + 1}, {n + 1, 0}, {0, -1, 0}, {math.MinInt}, {math.MaxInt}, make([]int, api.MaxFields+1), make([]int, 100000)} {
			told(t, unit(), fn, api.ErrCode, api.Instr{Op: api.OSwitch, Slots: slots, Name: "E"})
		}
	}
}

// P17.2: a name is a text of 1 to MaxName bytes, whatever text it is, and whether a type has it or not.
func TestNames(t *testing.T) {
	for _, x := range []api.Instr{{Op: api.OStruct}, {Op: api.OSplit}, {Op: api.OEnum}, {Op: api.OSwitch}} {
		for _, name := range []string{"S", "E", "other", "*", ".", "let", " ", "\x00", "\xff", "é", long(api.MaxName), strings.Repeat("é", api.MaxName/2)} {
			x.Name = name
			told(t, unit(), 0, api.OK, x)
		}
		for _, name := range []string{"", long(api.MaxName + 1), strings.Repeat("é", api.MaxName/2) + "n", long(100000)} {
			x.Name = name
			told(t, unit(), 0, api.ErrCode, x)
		}
	}
}

// P17.2: a kind, and of each what it may have.
func TestConsts(t *testing.T) {
	with := func(kind uint8, n int64) api.Instr { return api.Instr{Op: api.OConst, A: int(kind), Int: n} }
	for _, n := range []int64{0, 1, 2, -1, math.MinInt64, math.MaxInt64} {
		told(t, unit(), 0, api.OK, with(api.VInt, n))
	}
	told(t, unit(), 0, api.OK, with(api.VBool, 0), with(api.VBool, 1), with(api.VUnit, 0))
	for _, n := range []int64{2, 3, -1, math.MinInt64, math.MaxInt64} {
		told(t, unit(), 0, api.ErrCode, with(api.VBool, n), with(api.VUnit, n))
	}
	told(t, unit(), 0, api.ErrCode, with(api.VUnit, 1))
	for kind := api.VStruct; kind <= api.VMut+3; kind++ {
		told(t, unit(), 0, api.ErrCode, with(kind, 0), with(kind, 1))
	}
	told(t, unit(), 0, api.ErrCode, numbered(api.OConst, int(api.VNone), -1, 256+int(api.VInt), math.MinInt, math.MaxInt)...)
}

// P17.2: which kinds and operators go with an Op, of all numbers about api's own, and of those that a byte would take for these.
func TestKinds(t *testing.T) {
	may := map[uint8][]uint8{
		api.OUnary:  {api.ENeg, api.ENot},
		api.OBinary: {api.EAdd, api.ESub, api.EMul, api.EDiv, api.EMod, api.ELess, api.EEqual, api.EAnd, api.EOr},
		api.OWrap:   {api.VBox, api.VCell, api.VRc, api.VArc, api.VMutex, api.VAtomic},
		api.OUnwrap: {api.VBox, api.VMutex},
		api.OConst:  {api.VInt, api.VBool, api.VUnit},
	}
	for op, kinds := range may {
		for a := -300; a <= 600; a++ {
			want := api.ErrCode
			if 0 <= a && a < 256 && slices.Contains(kinds, uint8(a)) {
				want = api.OK
			}
			told(t, unit(), 0, want, api.Instr{Op: op, A: a})
		}
		told(t, unit(), 0, api.ErrCode, numbered(op, math.MinInt, math.MaxInt)...)
	}
}

// P17.2: how many fields there are, which variant it is, whether it has a payload, how much room there is.
func TestHowMany(t *testing.T) {
	for _, c := range []struct {
		least, most int
		with        func(n int) api.Instr
	}{
		{0, api.MaxFields, func(n int) api.Instr { return api.Instr{Op: api.OStruct, B: n, Name: "S"} }},
		{0, api.MaxFields, func(n int) api.Instr { return api.Instr{Op: api.OSplit, B: n, Name: "S"} }},
		{0, api.MaxFields - 1, func(n int) api.Instr { return api.Instr{Op: api.OEnum, A: n, Name: "E"} }},
		{0, api.MaxFields - 1, func(n int) api.Instr { return api.Instr{Op: api.OEnum, A: n, B: 1, Name: "E"} }},
		{0, 1, func(n int) api.Instr { return api.Instr{Op: api.OEnum, B: n, Name: "E"} }},
		{0, 1, func(n int) api.Instr { return api.Instr{Op: api.OEnum, A: 5, B: n, Name: "E"} }},
		{1, api.MaxQueue, func(n int) api.Instr { return api.Instr{Op: api.OChan, Int: int64(n)} }},
	} {
		for n := -20; n <= 20; n++ {
			want := api.ErrCode
			if c.least <= n && n <= c.most {
				want = api.OK
			}
			told(t, unit(), 0, want, c.with(n))
		}
		told(t, unit(), 0, api.ErrCode, c.with(math.MinInt), c.with(math.MaxInt), c.with(1<<32), c.with(256))
	}
}

// P17.2: a function of the unit, whichever one it is called in, and just its Params.
func TestCalls(t *testing.T) {
	u := unit()
	for fn := range u.Funcs {
		for _, op := range []uint8{api.OCall, api.OSpawn} {
			for a := -2; a <= 5; a++ {
				for b := -2; b <= 5; b++ {
					want := api.ErrCode
					if 0 <= a && a < 3 && b == []int{0, 2, 1}[a] {
						want = api.OK
					}
					told(t, u, fn, want, api.Instr{Op: op, A: a, B: b})
				}
			}
			told(t, u, fn, api.ErrCode, numbered(op, math.MinInt, math.MaxInt)...)
		}
	}
	for range 300 {
		u.Funcs = append(u.Funcs, api.Func{Name: "one", Params: 1, Slots: 1})
	}
	told(t, u, 0, api.OK, api.Instr{Op: api.OCall, A: 302, B: 1}, api.Instr{Op: api.OSpawn, A: 302, B: 1})
	told(t, u, 0, api.ErrCode, api.Instr{Op: api.OCall, A: 303, B: 1}, api.Instr{Op: api.OSpawn, A: 302, B: 2})
}

// P17.2: the fields that an Op hasn't are zero.
func TestOtherFields(t *testing.T) {
	has := map[uint8]string{
		api.OLive: "A", api.ODead: "A", api.OConst: "A Int", api.OUnary: "A", api.OBinary: "A",
		api.OStruct: "B Name", api.OEnum: "A B Name", api.OSplit: "B Name", api.OJump: "A", api.OBranch: "A", api.OSwitch: "Slots Name",
		api.OCall: "A B", api.OSpawn: "A B", api.OWrap: "A", api.OUnwrap: "A", api.OChan: "Int", api.OLock: "A B Path",
	}
	for _, op := range placeOps() {
		has[op] = "A Path"
	}
	for _, x := range right() {
		own := strings.Fields(has[x.Op])
		for name, change := range map[string]func(x *api.Instr, n int){
			"A":     func(x *api.Instr, n int) { x.A = n },
			"B":     func(x *api.Instr, n int) { x.B = n },
			"C":     func(x *api.Instr, n int) { x.C = n },
			"Int":   func(x *api.Instr, n int) { x.Int = int64(n) },
			"Slots": func(x *api.Instr, n int) { x.Slots = []int{n} },
			"Path":  func(x *api.Instr, n int) { x.Path = []string{long(max(n, 0))} },
			"Name":  func(x *api.Instr, n int) { x.Name = long(max(n, 1)) },
			"Names": func(x *api.Instr, n int) { x.Names = []string{long(max(n, 0))} },
		} {
			if slices.Contains(own, name) {
				continue
			}
			for _, n := range []int{1, 2, -1} {
				changed := x
				change(&changed, n)
				told(t, unit(), 0, api.ErrCode, changed)
			}
		}
		x.Names = []string{}
		if !slices.Contains(own, "Path") {
			x.Path = []string{}
		}
		if !slices.Contains(own, "Slots") {
			x.Slots = []int{}
		}
		told(t, unit(), 0, api.OK, x)
	}
}

// P17.2, P0.5: in a function that there isn't nothing may be.
func TestNoFunction(t *testing.T) {
	for _, fn := range []int{-1, 3, 4, math.MinInt, math.MaxInt} {
		told(t, unit(), fn, api.ErrCode, right()...)
	}
	told(t, api.Unit{}, 0, api.ErrCode, right()...)
	told(t, api.Unit{Funcs: []api.Func{}}, 0, api.ErrCode, right()...)
}

// P17.2: what else is wrong with the unit, or with the function, doesn't count.
func TestInstrAlone(t *testing.T) {
	u := unit()
	u.Main, u.Types = 7, slices.Repeat(u.Types, 30)
	u.Funcs[0].Name, u.Funcs[0].Params = "", -4
	u.Funcs[0].Code = make([]api.Instr, api.MaxCode+5)
	told(t, u, 0, api.OK, right()...)
	told(t, u, 0, api.OK, numbered(api.OJump, 0, api.MaxCode, api.MaxCode+5)...)
	told(t, u, 0, api.ErrCode, numbered(api.OJump, -1, api.MaxCode+6)...)
	if e := May(u); e != api.ErrCode {
		t.Error(e)
	}
}

// P17.2: the chapter's examples.
func TestInstrExamples(t *testing.T) {
	u := unit()
	told(t, u, 0, api.ErrCode, api.Instr{Op: api.OLive, A: 3}, api.Instr{Op: api.OConst, A: int(api.VBool), Int: 2}, api.Instr{Op: api.OJump, A: 5})
	u.Funcs[0].Slots = 4
	told(t, u, 0, api.OK, api.Instr{Op: api.OLive, A: 3})
}
