package names

import (
	"fmt"
	"reflect"
	"slices"
	"testing"

	"weftway/api"
	"weftway/tree"
)

// scattered hands on so many programs with one slip in so many names, that are small enough to be whole; where none is to slip, no function has too many variables.
func scattered(seed dice, n, wrong int, each func(p api.Program)) {
	m := &maker{dice: &seed, wrong: wrong}
	for range n {
		if p := m.program(); tree.Whole(p) && (wrong > 0 || !m.full) {
			each(p)
		}
	}
}

// P6.1: of whatever program what the second judge says, in its order.
func TestScattered(t *testing.T) {
	kinds := map[api.Errno]int{}
	long, right, total := 0, 0, 0
	for i, wrong := range []int{3, 10, 40, 200, 1000} {
		scattered(dice(11+i), 800, wrong, func(p api.Program) {
			got, want := Check(p), judged(p)
			if !slices.Equal(got, want) {
				t.Fatalf("%+v\n%v, want %v", p, got, want)
			}
			total++
			if len(got) == 0 {
				right++
			}
			if len(got) > 5 {
				long++
			}
			for _, f := range got {
				kinds[f.Err]++
			}
		})
	}
	if total < 3500 || right < 500 || long < 500 || kinds[api.ErrName] < 5000 || kinds[api.ErrScope] < 100 || kinds[api.ErrMain] < 100 {
		t.Error(total, right, long, kinds)
	}
}

// P6.1: none of a program whose names are right.
func TestRight(t *testing.T) {
	large := 0
	scattered(5, 1000, 0, func(p api.Program) {
		if got := Check(p); got != nil || len(judged(p)) != 0 {
			t.Fatalf("%+v\n%v", p, got)
		}
		if tree.Size(p) > 60 {
			large++
		}
	})
	if large < 200 {
		t.Error(large)
	}
}

// renamed calls a variable otherwise throughout the function, or the spawn's body, that these statements are: what is within the bodies of its spawns is another's.
func renamed(v reflect.Value, from, to string) {
	switch x := v.Addr().Interface().(type) {
	case *api.Place:
		if x.Name == from {
			x.Name = to
		}
	case *api.Stmt:
		switch x.Op {
		case api.SSpawn:
			renamed(reflect.ValueOf(&x.Exprs).Elem(), from, to)
			return
		case api.SLet, api.SDrop, api.SLock, api.SMatch, api.SChan:
			if x.Name == from {
				x.Name = to
			}
		}
		if x.Op == api.SChan && x.Second == from {
			x.Second = to
		}
		for i := range x.Names {
			if x.Names[i] == from {
				x.Names[i] = to
			}
		}
		eachField(v, func(y reflect.Value) { renamed(y, from, to) })
	case *api.Arm:
		if x.Name == from {
			x.Name = to
		}
		eachField(v, func(y reflect.Value) { renamed(y, from, to) })
	default:
		eachField(v, func(y reflect.Value) { renamed(y, from, to) })
	}
}

// eachField hands on what a struct or a list has.
func eachField(v reflect.Value, each func(reflect.Value)) {
	switch v.Kind() {
	case reflect.Struct:
		for i := range v.NumField() {
			each(v.Field(i))
		}
	case reflect.Slice:
		for i := range v.Len() {
			each(v.Index(i))
		}
	}
}

// renamedIn calls a variable otherwise in a function of an item, its parameters too.
func renamedIn(x *api.Item, from, to string) {
	for i := range x.Fields {
		if x.Fields[i].Name == from {
			x.Fields[i].Name = to
		}
	}
	renamed(reflect.ValueOf(&x.Body).Elem(), from, to)
	renamed(reflect.ValueOf(&x.Return).Elem(), from, to)
}

// P6.3: a variable that is called otherwise, by a name that its function has not.
func TestOtherNames(t *testing.T) {
	d := dice(3)
	clashes := 0
	scattered(17, 500, 0, func(p api.Program) {
		for i := range p.Items {
			if p.Items[i].Kind != api.IFn {
				continue
			}
			from, to := fmt.Sprint("v", d.below(6)), []string{"other", "main", "f0", "v99"}[d.below(4)]
			q := tree.Copy(p)
			renamedIn(&q.Items[i], from, to)
			if got := Check(q); got != nil {
				t.Fatalf("%s as %s: %v\n%+v", from, to, got, p.Items[i])
			}
			// By the name of another one of the function there is something wrong.
			n := len(p.Items[i].Fields)
			if n < 2 {
				continue
			}
			clashes++
			renamedIn(&q.Items[i], p.Items[i].Fields[n-1].Name, q.Items[i].Fields[0].Name)
			if len(Check(q)) == 0 && q.Items[i].Fields[n-1].Name == q.Items[i].Fields[0].Name {
				t.Fatalf("%+v", q.Items[i])
			}
		}
	})
	if clashes < 100 {
		t.Error(clashes)
	}
}

// P6.3: the same within the body of a spawn, whatever the names around it.
func TestOtherNamesOfSpawns(t *testing.T) {
	found := 0
	scattered(19, 500, 0, func(p api.Program) {
		q := tree.Copy(p)
		spawns(reflect.ValueOf(&q).Elem(), func(s *api.Stmt) {
			found++
			for i := range s.Names {
				from := s.Names[i]
				s.Names[i] = "other" + from
				renamed(reflect.ValueOf(&s.Body).Elem(), from, "other"+from)
			}
			if got := Check(q); got != nil {
				t.Fatalf("%v\n%+v", got, s)
			}
		})
	})
	if found < 100 {
		t.Error(found)
	}
}

func spawns(v reflect.Value, each func(*api.Stmt)) {
	eachField(v, func(x reflect.Value) {
		if s, ok := x.Addr().Interface().(*api.Stmt); ok && s.Op == api.SSpawn {
			each(s)
		}
		spawns(x, each)
	})
}

// P6.3: items in another order; a function more, of a name of its own.
func TestOtherItems(t *testing.T) {
	seed := dice(29)
	m := &maker{dice: &seed}
	more := read(t, "fn more(v0: int) -> int { let v1 = more(v0); scope { spawn (v0 = v1) { v0; } } v1 }").Items[0]
	scattered(23, 500, 0, func(p api.Program) {
		q := api.Program{Items: m.mixed(p.Items)}
		if got := Check(q); got != nil {
			t.Fatalf("%+v\n%v", q, got)
		}
		q.Items = slices.Insert(q.Items, m.below(len(q.Items)+1), more)
		if got := Check(q); got != nil {
			t.Fatalf("%+v\n%v", q, got)
		}
		// One more of a name that there is.
		q.Items = append(q.Items, q.Items[m.below(len(q.Items))])
		if got := Check(q); len(got) != 1 || got[0].Err != api.ErrName || got[0].At != q.Items[len(q.Items)-1].At {
			t.Fatalf("%+v\n%v", q, got)
		}
	})
}

// moved gives each At that there is another one.
func moved(v reflect.Value, other func(int) int) {
	eachField(v, func(x reflect.Value) { moved(x, other) })
	if v.Kind() == reflect.Struct && v.FieldByName("At").IsValid() {
		v.FieldByName("At").SetInt(int64(other(int(v.FieldByName("At").Int()))))
	}
}

// P6.4: other places change nothing but those of the faults; each of these is one that is there, or 0.
func TestPlaces(t *testing.T) {
	for i, other := range []func(int) int{
		func(int) int { return 0 }, func(at int) int { return -at }, func(at int) int { return 100000 - 7*at }, func(at int) int { return at / 10 },
	} {
		scattered(dice(31+i), 300, 20, func(p api.Program) {
			there := map[int]bool{0: true}
			moved(reflect.ValueOf(&p).Elem(), func(at int) int { there[at] = true; return at })
			q := tree.Copy(p)
			moved(reflect.ValueOf(&q).Elem(), other)
			before, after := Check(p), Check(q)
			for k := range before {
				if !there[before[k].At] {
					t.Fatalf("%+v\n%v", p, before)
				}
				if before[k].Err != api.ErrMain {
					before[k].At = other(before[k].At)
				}
			}
			if !slices.Equal(before, after) {
				t.Fatalf("%+v\n%v, want %v", p, after, before)
			}
		})
	}
}

// P6.1: more variables than a function may have, made by whatever statements.
func TestScatteredMany(t *testing.T) {
	full := 0
	seed := dice(41)
	m := &maker{dice: &seed, wrong: 500}
	for range 300 {
		p := m.program()
		last := &p.Items[len(p.Items)-1]
		if last.Kind != api.IFn {
			continue
		}
		m.seen, m.count, m.scoped = nil, 0, true
		for range 60 {
			last.Body = append(last.Body, m.statement(2))
		}
		last.Body = []api.Stmt{{Op: api.SScope, Body: last.Body}}
		if !tree.Whole(p) {
			continue
		}
		got := Check(p)
		if want := judged(p); !slices.Equal(got, want) {
			t.Fatalf("%+v\n%v, want %v", p, got, want)
		}
		if slices.ContainsFunc(got, func(f api.Fault) bool { return f.Err == api.ErrFull }) {
			full++
		}
	}
	if full < 30 {
		t.Error(full)
	}
}
