package code

import (
	"math"
	"slices"
	"strconv"
	"testing"

	"weftway/api"
)

func scatteredNumber(d *dice) int {
	if d.below(30) == 0 {
		return pick(d, math.MinInt, math.MaxInt, 256, 1<<32, -300)
	}
	return d.below(12) - 1
}

func scatteredName(d *dice) string {
	return pick(d, "", "S", "E", "*", long(16), long(17))
}

func scatteredPath(d *dice) []string {
	var l []string
	for range pick(d, 0, 1, 2, 3, 40, 41) {
		l = append(l, pick(d, "a", "*", "b", "field"))
	}
	if len(l) > 0 && d.below(4) == 0 {
		l[d.below(len(l))] = scatteredName(d)
	}
	return l
}

func scatteredSlots(d *dice) []int {
	l := make([]int, d.below(8))
	for i := range l {
		l[i] = d.below(6)
	}
	if len(l) > 0 && d.below(4) == 0 {
		l[d.below(len(l))] = scatteredNumber(d)
	}
	return l
}

// change puts something else into a field.
func change(d *dice, x *api.Instr) {
	switch d.below(9) {
	case 0:
		x.Op = uint8(d.below(40))
	case 1:
		x.A = scatteredNumber(d)
	case 2:
		x.B = scatteredNumber(d)
	case 3:
		x.C = d.below(3) - 1
	case 4:
		x.Int = int64(scatteredNumber(d))
	case 5:
		x.Slots = scatteredSlots(d)
	case 6:
		x.Path = scatteredPath(d)
	case 7:
		x.Name = scatteredName(d)
	case 8:
		x.Names = pick(d, nil, []string{}, []string{""}, []string{"x"})
	}
}

// scatteredUnit is of some functions that may be, but for how many slots they have now and then.
func scatteredUnit(d *dice) api.Unit {
	u := unit()
	for range d.below(3) {
		u.Funcs = append(u.Funcs, api.Func{Name: "more", Params: d.below(4), Slots: 4 + d.below(8), Code: returns(d.below(6))})
	}
	if d.below(4) == 0 {
		u.Funcs[d.below(len(u.Funcs))].Slots = pick(d, -1, 0, 1, 70)
	}
	return u
}

// P17.2, P17.3: what the table says in words, over scattered instructions.
func TestScattered(t *testing.T) {
	d, j := dice(171), newJudge()
	l := right()
	may := map[string][2]int{}
	for range 200000 {
		u := scatteredUnit(&d)
		x := pick(&d, l...)
		for range 1 + d.below(3) {
			change(&d, &x)
		}
		fn := d.below(len(u.Funcs)+2) - 1
		ok := j.may(u, fn, x)
		if e := Instr(u, fn, x); e != rightOr(ok) {
			t.Fatalf("%+v in %d: %v", x, fn, e)
		}
		if s, want := Text(x), j.text(x); s != want {
			t.Fatalf("%q, want %q", s, want)
		}
		n := may[j.name(x.Op)]
		n[rightOr(ok)/api.ErrCode]++
		may[j.name(x.Op)] = n
	}
	for op := range j.rows {
		if n := may[op]; n[0] < 200 || n[1] < 2000 {
			t.Error(op, n)
		}
	}
}

// P17.2: all small numbers in all fields that have one, of each Op.
func TestSmallNumbers(t *testing.T) {
	u, j := unit(), newJudge()
	many := 0
	for op := range 36 {
		for a := -1; a <= 18; a++ {
			for b := -1; b <= 7; b++ {
				for n := int64(-1); n <= 9; n++ {
					for _, x := range []api.Instr{{}, {Name: "E"}, {Name: "E", Slots: []int{0, 4}}, {Path: path(".a")}} {
						x.Op, x.A, x.B, x.Int = uint8(op), a, b, n
						want := j.may(u, 0, x)
						if e := Instr(u, 0, x); e != rightOr(want) {
							t.Fatalf("%+v: %v", x, e)
						}
						many += 1 - int(rightOr(want)/api.ErrCode)
					}
				}
			}
		}
	}
	if many < 150 {
		t.Error(many)
	}
}

// typesMay is what P17.1 says of types, in a way of its own: by how often each name is there.
func typesMay(l []api.Item) bool {
	names := map[string]int{}
	for _, x := range l {
		names[x.Name]++
		if x.Kind != 1 && x.Kind != 2 || len(x.Fields) >= 7 || names[x.Name] > 1 {
			return false
		}
	}
	return len(l) < 31
}

// funcMay is what P17.1 says of a function, its instructions aside.
func funcMay(f api.Func) bool {
	return isCalled(f.Name) && among(strconv.Itoa(f.Params), f.Slots+1) && f.Slots < 61 && len(f.Code) < 4001
}

// broken is a unit with some things changed.
func broken(d *dice) api.Unit {
	u := scatteredUnit(d)
	for i := range u.Funcs {
		u.Funcs[i].Code = scatteredCode(d, u, i)
	}
	for range d.below(3) {
		f := &u.Funcs[d.below(len(u.Funcs))]
		switch d.below(7) {
		case 0:
			u.Main = d.below(len(u.Funcs)+2) - 1
		case 1:
			f.Name = scatteredName(d)
		case 2:
			f.Params = d.below(8) - 1
		case 3:
			f.Slots = pick(d, -1, 0, 60, 61)
		case 4:
			f.Code = returns(pick(d, 1, 4000, 4001))
		case 5:
			u.Types = append(u.Types, api.Item{Kind: uint8(d.below(4)), Name: pick(d, "S", "T", "U"), Fields: make([]api.Field, 5+d.below(3))})
		case 6:
			if len(f.Code) > 0 {
				change(d, &f.Code[d.below(len(f.Code))])
			}
		}
	}
	return u
}

// scatteredCode is of instructions that may be in main of unit, those that may be here but for one now and then.
func scatteredCode(d *dice, u api.Unit, fn int) []api.Instr {
	code, l := returns(d.below(12)), right()
	u.Funcs[fn].Code = code
	for i := range code {
		if x := pick(d, l...); Instr(u, fn, x) == api.OK || d.below(60) == 0 {
			code[i] = x
		}
	}
	return code
}

// P17.1, P17.5: a unit may be just if its types, its Main, its functions may be, and each instruction of each of them.
func TestOneByOne(t *testing.T) {
	d := dice(172)
	told := [2]int{}
	for range 6000 {
		u := broken(&d)
		want := typesMay(u.Types) && len(u.Funcs) < 201 && among(strconv.Itoa(u.Main), len(u.Funcs)) && u.Funcs[u.Main].Params == 0
		for fn, f := range u.Funcs {
			want = want && funcMay(f)
			for _, x := range f.Code {
				want = want && Instr(u, fn, x) == api.OK
			}
		}
		if e := May(u); e != rightOr(want) {
			t.Fatalf("%+v: %v", u, e)
		}
		told[rightOr(want)/api.ErrCode]++
	}
	if told[0] < 1000 || told[1] < 1000 {
		t.Error(told)
	}
}

// P17.5: without the last instruction of a function a unit may be just if no other one of that function jumps to its end.
func TestWithoutLast(t *testing.T) {
	d := dice(173)
	told := [2]int{}
	for range 20000 {
		u := unit()
		for i := range u.Funcs {
			u.Funcs[i].Code = scatteredCode(&d, u, i)
		}
		fn := d.below(len(u.Funcs))
		code := u.Funcs[fn].Code
		if May(u) != api.OK || len(code) == 0 {
			continue
		}
		u.Funcs[fn].Code = code[:len(code)-1]
		leads := false
		for _, x := range u.Funcs[fn].Code {
			leads = leads || slices.Contains(Jumps(x), len(code))
		}
		if e := May(u); e != rightOr(!leads) {
			t.Fatalf("%+v: %v", u, e)
		}
		told[rightOr(!leads)/api.ErrCode]++
	}
	if told[0] < 1000 || told[1] < 100 {
		t.Error(told)
	}
}

// P17.2, P17.4: an instruction that jumps may be just if each of its jumps leads into the function or to its end.
func TestJumpsAreAsked(t *testing.T) {
	u := unit()
	for _, op := range []uint8{api.OJump, api.OBranch, api.OSwitch} {
		for to := -3; to <= 9; to++ {
			x := api.Instr{Op: op, A: to}
			if op == api.OSwitch {
				x = api.Instr{Op: op, Slots: []int{0, to}, Name: "E"}
			}
			inside := !slices.ContainsFunc(Jumps(x), func(n int) bool { return n < 0 || n > 4 })
			if e := Instr(u, 0, x); e != rightOr(inside) || inside != (0 <= to && to <= 4) {
				t.Error(Text(x), e)
			}
		}
	}
}
