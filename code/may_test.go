package code

import (
	"math"
	"slices"
	"strconv"
	"strings"
	"testing"

	"weftway/api"
)

// mayWith asks of the unit, with one thing changed, whether it may be.
func mayWith(t *testing.T, what string, want api.Errno, change func(u *api.Unit)) {
	t.Helper()
	u := unit()
	change(&u)
	if e := May(u); e != want {
		t.Errorf("%s: %v", what, e)
	}
}

// rightOr is OK where it is so.
func rightOr(so bool) api.Errno {
	if so {
		return api.OK
	}
	return api.ErrCode
}

// P17.1: Main is the number of a function without Params.
func TestMain(t *testing.T) {
	mayWith(t, "as it is", api.OK, func(u *api.Unit) {})
	for main, want := range map[int]api.Errno{0: api.OK, 1: api.ErrCode, 2: api.ErrCode, 3: api.ErrCode, -1: api.ErrCode, math.MinInt: api.ErrCode, math.MaxInt: api.ErrCode} {
		mayWith(t, strconv.Itoa(main), want, func(u *api.Unit) { u.Main = main })
	}
	mayWith(t, "another one", api.OK, func(u *api.Unit) {
		u.Funcs = append(u.Funcs, u.Funcs[0])
		u.Main = 3
	})
	mayWith(t, "no functions", api.ErrCode, func(u *api.Unit) { u.Funcs = nil })
	mayWith(t, "empty functions", api.ErrCode, func(u *api.Unit) { u.Funcs = []api.Func{} })
	if e := May(api.Unit{}); e != api.ErrCode {
		t.Error(e)
	}
	if e := May(api.Unit{Funcs: []api.Func{{Name: "f"}}}); e != api.OK {
		t.Error(e)
	}
}

// P17.1: at most 200 functions.
func TestManyFuncs(t *testing.T) {
	for _, n := range []int{199, 200, 201, 400, 100000} {
		mayWith(t, strconv.Itoa(n), rightOr(n <= 200), func(u *api.Unit) {
			for len(u.Funcs) < n {
				u.Funcs = append(u.Funcs, api.Func{Name: "f"})
			}
		})
	}
}

// P17.1: each function's name is one, its Params are from 0 to Slots, its Slots at most MaxVars.
func TestFuncs(t *testing.T) {
	for i := range unit().Funcs {
		for name, want := range map[string]api.Errno{"": api.ErrCode, "a": api.OK, "main": api.OK, "Two words": api.OK, "\xff": api.OK, long(16): api.OK, long(17): api.ErrCode, long(5000): api.ErrCode, strings.Repeat("é", 8): api.OK, strings.Repeat("é", 9): api.ErrCode} {
			mayWith(t, name, want, func(u *api.Unit) { u.Funcs[i].Name = name })
		}
		for _, slots := range []int{0, 1, 59, 60, 61, 62, 1000, -1, math.MinInt, math.MaxInt} {
			mayWith(t, strconv.Itoa(slots), rightOr(0 <= slots && slots <= 60), func(u *api.Unit) {
				u.Funcs[i].Slots, u.Funcs[i].Params = slots, 0
				u.Main = i
			})
		}
	}
	for _, slots := range []int{0, 1, 2, 60} {
		for _, params := range []int{-1, 0, 1, 2, 3, 59, 60, 61, math.MinInt, math.MaxInt} {
			mayWith(t, strconv.Itoa(params), rightOr(0 <= params && params <= slots), func(u *api.Unit) {
				u.Funcs[1].Slots, u.Funcs[1].Params = slots, params
			})
		}
	}
	mayWith(t, "61 of 61", api.ErrCode, func(u *api.Unit) { u.Funcs[1].Slots, u.Funcs[1].Params = 61, 61 })
	mayWith(t, "-1 of -1", api.ErrCode, func(u *api.Unit) { u.Funcs[1].Slots, u.Funcs[1].Params = -1, -1 })
	mayWith(t, "the same names", api.OK, func(u *api.Unit) { u.Funcs[1].Name, u.Funcs[2].Name = "main", "main" })
}

// P17.1: at most MaxCode instructions.
func TestLongCode(t *testing.T) {
	for i := range unit().Funcs {
		for _, n := range []int{0, 1, 3999, 4000, 4001, 8000} {
			mayWith(t, strconv.Itoa(n), rightOr(n <= 4000), func(u *api.Unit) { u.Funcs[i].Code = returns(n) })
		}
	}
}

// P17.1: each instruction of each function may be, wherever it stands.
func TestEachInstr(t *testing.T) {
	mayWith(t, "right ones", api.OK, func(u *api.Unit) { u.Funcs[0].Code = right() })
	for _, wrong := range []api.Instr{{}, {Op: 99}, {Op: api.OLive, A: 5}, {Op: api.OJump, A: 7}, {Op: api.OUse, Path: slices.Repeat([]string{"*"}, 41)}, {Op: api.OCall, A: 3}, {Op: api.OReturn, C: 1}} {
		for fn, f := range unit().Funcs {
			for i := range f.Code {
				mayWith(t, Text(wrong), api.ErrCode, func(u *api.Unit) { u.Funcs[fn].Code[i] = wrong })
			}
		}
	}
	for fn, slots := range []int{3, 5} {
		for a := range 7 {
			mayWith(t, "a slot of its own", rightOr(a < slots), func(u *api.Unit) { u.Funcs[fn].Code[1] = api.Instr{Op: api.OLive, A: a} })
		}
	}
	for fn, n := range []int{4, 6} {
		for a := range 9 {
			mayWith(t, "a jump inside", rightOr(a <= n), func(u *api.Unit) { u.Funcs[fn].Code[1] = api.Instr{Op: api.OJump, A: a} })
		}
	}
	for _, steps := range []int{0, 1, 39, 40, 41} {
		mayWith(t, "a path", rightOr(steps <= 40), func(u *api.Unit) {
			u.Funcs[1].Code[5] = api.Instr{Op: api.OUse, Path: slices.Repeat([]string{"a"}, steps)}
		})
	}
}

// P17.1: the types are structs and enums, at most MaxItems, of unlike names.
func TestTypes(t *testing.T) {
	for _, l := range [][]api.Item{nil, {}} {
		mayWith(t, "no types", api.OK, func(u *api.Unit) { u.Types = l })
	}
	for kind := range 256 {
		for i := range unit().Types {
			mayWith(t, "kind "+strconv.Itoa(kind), rightOr(kind == 1 || kind == 2), func(u *api.Unit) { u.Types[i].Kind = uint8(kind) })
		}
	}
	for _, n := range []int{1, 29, 30, 31, 60, 100000} {
		mayWith(t, strconv.Itoa(n)+" types", rightOr(n <= 30), func(u *api.Unit) {
			u.Types = nil
			for i := range n {
				u.Types = append(u.Types, api.Item{Kind: api.IStruct, Name: "S" + strconv.Itoa(i)})
			}
		})
	}
	for _, kind := range []uint8{api.IStruct, api.IEnum} {
		for _, name := range []string{"S", "E", "T", "s", "SS", "S "} {
			mayWith(t, "a type "+name, rightOr(name != "S" && name != "E"), func(u *api.Unit) { u.Types = append(u.Types, api.Item{Kind: kind, Name: name}) })
		}
	}
}

// P17.1: each type has at most MaxFields fields, of whatever names.
func TestFields(t *testing.T) {
	for i := range unit().Types {
		for n := range 10 {
			mayWith(t, strconv.Itoa(n)+" fields", rightOr(n <= 6), func(u *api.Unit) { u.Types[i].Fields = make([]api.Field, n) })
		}
	}
}

// P0.1: a unit as large as may be is told at once, as is one that is far too large.
func TestLarge(t *testing.T) {
	u := unit()
	deep := api.Instr{Op: api.OUse, Path: slices.Repeat([]string{"*"}, api.MaxDeep)}
	u.Funcs[0].Code = slices.Repeat([]api.Instr{deep}, api.MaxCode)
	u.Funcs = slices.Repeat(u.Funcs[:1], 200)
	if e := May(u); e != api.OK {
		t.Error(e)
	}
	u.Funcs = slices.Repeat(u.Funcs, 500)
	u.Funcs[0].Code = slices.Repeat(u.Funcs[0].Code, 200)
	u.Types = slices.Repeat(u.Types, 100000)
	if e := May(u); e != api.ErrCode {
		t.Error(e)
	}
}
