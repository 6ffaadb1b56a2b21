package tree

import (
	"cmp"
	"reflect"
	"slices"
	"strings"
	"testing"
	"unsafe"

	"weftway/api"
)

// memory is what a list or a text takes, spare room and all; what takes none is left out.
type memory struct {
	name     string
	from, to uintptr
}

func memories(x any) []memory {
	var out []memory
	for _, s := range spots(x) {
		v := s.value
		from, size := uintptr(0), uintptr(0)
		switch v.Kind() {
		case reflect.Slice:
			from, size = v.Pointer(), uintptr(v.Cap())*v.Type().Elem().Size()
		case reflect.String:
			from, size = uintptr(unsafe.Pointer(unsafe.StringData(v.String()))), uintptr(v.Len())
		}
		if size > 0 {
			out = append(out, memory{s.name, from, from + size})
		}
	}
	return out
}

// checkApart asks that the copy shares nothing with the program, and no two lists of it share anything.
func checkApart(t *testing.T, p, copied api.Program) {
	t.Helper()
	ours := memories(&copied)
	slices.SortFunc(ours, func(a, b memory) int { return cmp.Compare(a.from, b.from) })
	for i := range ours {
		if i > 0 && ours[i].from < ours[i-1].to {
			t.Fatalf("%s and %s share memory", ours[i].name, ours[i-1].name)
		}
	}
	for _, m := range memories(&p) {
		i, _ := slices.BinarySearchFunc(ours, m.from+1, func(a memory, from uintptr) int { return cmp.Compare(a.to, from) })
		if i < len(ours) && ours[i].from < m.to {
			t.Fatalf("%s is in the memory of %s", ours[i].name, m.name)
		}
	}
}

// erased is the program with each At 0, made without the package's own.
func erased(p api.Program) api.Program {
	out := apart(p)
	for _, s := range spots(&out) {
		if s.isAt() {
			s.value.SetInt(0)
		}
	}
	return out
}

// fresh is a copy of which each text has memory of its own as well: texts that a program is written with may lie anywhere.
func fresh(p api.Program) api.Program {
	out := apart(p)
	for _, s := range spots(&out) {
		if s.value.Kind() == reflect.String {
			s.value.SetString(strings.Clone(s.value.String()))
		}
	}
	return out
}

func checkCopies(t *testing.T, what string, p api.Program) {
	t.Helper()
	before := apart(p)
	copied, bare := Copy(p), Erase(p)
	if !reflect.DeepEqual(copied, p) {
		t.Errorf("%s: copied as %.300s, is %.300s", what, written(copied), written(p))
	}
	if !reflect.DeepEqual(bare, erased(p)) {
		t.Errorf("%s: erased as %.300s, is %.300s", what, written(bare), written(p))
	}
	checkApart(t, p, copied)
	checkApart(t, p, bare)
	checkApart(t, copied, bare)
	for _, x := range []api.Program{copied, bare} {
		if !Same(p, x) || !Same(x, p) || Whole(x) != Whole(p) || Depth(x) != Depth(p) || Size(x) != Size(p) {
			t.Errorf("%s: not the same: %.300s", what, written(x))
		}
		scratch(&x)
	}
	if !reflect.DeepEqual(p, before) {
		t.Errorf("%s: changed by what was done to its copies", what)
	}
}

// scratch changes all that x has.
func scratch(x *api.Program) {
	for _, s := range spots(x) {
		switch s.value.Kind() {
		case reflect.String:
			s.value.SetString("scratched")
		case reflect.Uint8:
			s.value.SetUint(99)
		case reflect.Slice:
			room := s.value.Slice(0, s.value.Cap())
			for i := range room.Len() {
				room.Index(i).SetZero()
			}
		default:
			s.value.SetInt(-77)
		}
	}
}

// P3.3, P3.5: copies are the same, apart, and whole if the program was.
func TestCopies(t *testing.T) {
	checkCopies(t, "nothing", api.Program{})
	checkCopies(t, "no items", api.Program{Items: []api.Item{}})
	checkCopies(t, "all fields", full[api.Program](4))
	checkCopies(t, "deep fields", full[api.Program](5))
	for _, p := range kindPrograms() {
		checkCopies(t, "a kind", fresh(p))
	}
	p := fresh(everything())
	for i, s := range spots(&p) {
		if s.isAt() {
			s.value.SetInt(int64(i))
		}
	}
	checkCopies(t, "everything, with Ats", p)
	if reflect.DeepEqual(Erase(p), Copy(p)) || !Whole(Erase(p)) || !Whole(Copy(p)) {
		t.Error("with Ats")
	}
}

// P3.3, P0.4: lists that are empty, and room behind lists, are not shared.
func TestCopiesOfEmptyLists(t *testing.T) {
	p := full[api.Program](3)
	for _, s := range spots(&p) {
		if s.value.Kind() != reflect.Slice {
			continue
		}
		s.with(reflect.MakeSlice(s.value.Type(), 0, 4), func() bool { checkCopies(t, s.name, p); return true })
		s.with(reflect.Zero(s.value.Type()), func() bool { checkCopies(t, s.name, p); return true })
		if s.value.Len() > 1 {
			s.with(s.value.Slice(0, 1), func() bool { checkCopies(t, s.name, p); return true })
		}
	}
	room := []api.Item{main().Items[0], {Name: "behind"}}
	copied := Copy(api.Program{Items: room[:1]})
	_ = append(copied.Items, api.Item{Name: "new"})
	if room[1].Name != "behind" || len(copied.Items) != 1 {
		t.Error(room[1].Name)
	}
}

// P0.4: what stands twice in the memory of a program has memory of its own for each in the copy.
func TestCopiesOfWhatIsShared(t *testing.T) {
	body := []api.Stmt{block(do(number(1)))}
	types := []api.Type{mk(api.TInt)}
	s := api.Stmt{Op: api.SIf, Exprs: []api.Expr{number(1)}, Body: body, Else: body, Arms: []api.Arm{{Body: body}, {Body: body}}}
	p := main(s, s)
	p.Items = append(p.Items, p.Items...)
	p.Items[0].Result, p.Items[1].Result = mk(api.TBox, types...), mk(api.TBox, types...)
	copied := Copy(p)
	checkApart(t, api.Program{}, copied)
	copied.Items[0].Body[0].Body[0].Op = 99
	if !reflect.DeepEqual(copied.Items[0].Body[0].Else, body) || !reflect.DeepEqual(copied.Items[1], p.Items[1]) {
		t.Error("changed with another")
	}
}
