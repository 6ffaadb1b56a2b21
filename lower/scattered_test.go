package lower

import (
	"reflect"
	"slices"
	"strings"
	"testing"

	"weftway/api"
	"weftway/code"
	"weftway/names"
	"weftway/tree"
)

// agreed holds what is told of a program against the judge; it answers the unit, if there is one.
func agreed(t *testing.T, p api.Program) (api.Unit, *judge, bool) {
	t.Helper()
	j := judgeOf(p)
	if j.full() {
		refused(t, p, api.ErrFull)
		return api.Unit{}, j, false
	}
	u, e := Program(p)
	if e != api.OK || code.May(u) != api.OK || u.Main != j.main || len(u.Funcs) != len(j.fns) {
		t.Fatal(e, code.May(u), u.Main, len(u.Funcs), len(j.fns))
	}
	for i, f := range u.Funcs {
		want := j.fns[i]
		if f.Name != want.name || f.Params != len(want.params) || f.Slots != len(want.slots) {
			t.Fatal(f.Name, f.Params, f.Slots, want.name, want.params, len(want.slots))
		}
		if got := textsOf(f.Code); !slices.Equal(got, want.lines) {
			t.Fatalf("%s:\n got %s\nwant %s", f.Name, strings.Join(got, "; "), strings.Join(want.lines, "; "))
		}
	}
	if want := typesOf(p); len(u.Types)+len(want) > 0 && !reflect.DeepEqual(u.Types, want) {
		t.Fatalf("%+v, want %+v", u.Types, want)
	}
	return u, j, true
}

// typesOf are a program's structs and enums without their places.
func typesOf(p api.Program) []api.Item {
	return slices.DeleteFunc(tree.Erase(p).Items, func(x api.Item) bool { return x.Kind == api.IFn })
}

// P18.1: over scattered programs the unit is the judge's.
func TestScattered(t *testing.T) {
	d := dice(1)
	met, spawns, most := map[uint8]int{}, 0, 0
	for range 2500 {
		m := scribe{dice: &d}
		p := m.program()
		if faults := names.Check(p); len(faults) > 0 {
			t.Fatal("not right:", faults)
		}
		u, _, ok := agreed(t, p)
		if !ok {
			continue
		}
		for _, f := range u.Funcs {
			most = max(most, len(f.Code))
			for _, x := range f.Code {
				met[x.Op]++
			}
		}
		spawns += m.spawns
	}
	for op := api.OLive; op <= api.OJoin; op++ {
		if met[op] < 200 {
			t.Error(op, met[op])
		}
	}
	if spawns < 1000 || most < 200 {
		t.Error(spawns, most)
	}
}

// P18.1: over programs in which something has been spoiled the answer is the names'.
func TestSpoiled(t *testing.T) {
	d := dice(2)
	wrong, right := 0, 0
	for range 2500 {
		m := scribe{dice: &d}
		p := m.program()
		for range 1 + d.below(2) {
			spoil(&d, reflect.ValueOf(&p).Elem())
		}
		if len(names.Check(p)) > 0 {
			refused(t, p, api.ErrArg)
			wrong++
		} else {
			agreed(t, p)
			right++
		}
	}
	if wrong < 800 || right < 200 {
		t.Error(wrong, right)
	}
}

// spoil changes something in a tree.
func spoil(d *dice, v reflect.Value) {
	for {
		switch v.Kind() {
		case reflect.Struct:
			v = v.Field(d.below(v.NumField()))
		case reflect.Slice:
			if v.Len() == 0 || d.below(8) == 0 {
				cut(d, v)
				return
			}
			v = v.Index(d.below(v.Len()))
		case reflect.String:
			v.SetString(pick(d, "", "main", "S0", "E0", "E1", "f0", "v0", "v1", "pc", "Vc", "Va", "nc", "*"))
			return
		case reflect.Uint8:
			v.SetUint(uint64(d.below(16)))
			return
		default:
			v.SetInt(int64(d.below(5) - 1))
			return
		}
	}
}

// cut takes something from a list, or lets it have something twice.
func cut(d *dice, v reflect.Value) {
	if v.Len() == 0 {
		return
	}
	at := d.below(v.Len())
	longer := reflect.AppendSlice(reflect.MakeSlice(v.Type(), 0, v.Len()+1), v.Slice(0, at))
	if d.below(2) == 0 {
		longer = reflect.Append(longer, v.Index(at), v.Index(at))
	}
	v.Set(reflect.AppendSlice(longer, v.Slice(at+1, v.Len())))
}
