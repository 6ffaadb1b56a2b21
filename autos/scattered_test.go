package autos

import (
	"slices"
	"testing"

	"weftway/api"
	"weftway/tree"
)

// scattered hands on so many programs, each of which is whole, or may be otherwise.
func scattered(t *testing.T, seed dice, n int, whole bool, each func(m *maker, p api.Program)) {
	t.Helper()
	m := &maker{dice: &seed, whole: whole}
	odd := 0
	for range n {
		p := m.program()
		if !tree.Whole(p) {
			odd++
		}
		each(m, p)
	}
	if whole && odd > 0 || !whole && odd < n/4 {
		t.Error(odd, "programs that aren't whole")
	}
}

// asIs makes a type that is whole.
func (m *maker) asIs(deep int) api.Type {
	was := m.whole
	m.whole = true
	t := m.kind(deep)
	m.whole = was
	return t
}

// P9.1: whatever the program, the type: what the second judge says.
func TestScattered(t *testing.T) {
	for _, whole := range []bool{true, false} {
		count := map[string]int{}
		scattered(t, 3, 8000, whole, func(m *maker, p api.Program) {
			v := judged(p)
			for i := range 8 {
				x := m.asIs(4)
				if i < 4 {
					x = named(names()[i])
				}
				want := yesNo(v.says(x, toSend)) + " " + yesNo(v.says(x, toSync))
				if got := told(p, x); got != want {
					t.Fatalf("%+v\n%+v: %s, want %s", p, x, got, want)
				}
				count[want]++
			}
		})
		if count["yes yes"] < 10000 || count["yes no"] < 3000 || count["no no"] < 10000 {
			t.Error(count)
		}
	}
}

// P9.2: what is told of a type follows by its rule from what is told of that which it has.
func TestRulesHold(t *testing.T) {
	scattered(t, 7, 40, true, func(_ *maker, p api.Program) {
		table := tableOf(p)
		one := func(x api.Type, says func(api.Program, api.Type) bool) bool { return x.Kind == 0 || says(p, x) }
		every := func(l []api.Type, says func(api.Program, api.Type) bool) bool {
			return !slices.ContainsFunc(l, func(x api.Type) bool { return !one(x, says) })
		}
		eachType(4, append(names(), "E"), func(x api.Type) {
			parts := x.Args
			if x.Kind == api.TNamed {
				parts = table[x.Name]
			}
			send, sync := every(parts, Send), every(parts, Sync)
			switch x.Kind {
			case api.TCell:
				sync = false
			case api.TRc:
				send, sync = false, false
			case api.TArc:
				send = send && sync
				sync = send
			case api.TMutex, api.TSender, api.TReceiver:
				sync = send
			case api.TRef:
				send = sync
			}
			if Send(p, x) != send || Sync(p, x) != sync {
				t.Fatalf("%+v\n%+v: %t %t", p, x, send, sync)
			}
		})
	})
}

// P9.3: of all that may be said of the names and keeps to the rules, what is told is a yes wherever any of it is.
func TestGreatest(t *testing.T) {
	several := 0
	for _, whole := range []bool{true, false} {
		scattered(t, 13, 1500, whole, func(_ *maker, p api.Program) {
			table := tableOf(p)
			keep, itself := 0, false
			var there []string
			for _, name := range names() {
				if _, ok := table[name]; ok {
					there = append(there, name)
				}
			}
			eachView(there, func(v view) {
				if !same(v, v.mended(table)) {
					return
				}
				keep++
				is := true
				for name, said := range v {
					send, sync := Send(p, named(name)), Sync(p, named(name))
					if said[toSend] && !send || said[toSync] && !sync {
						t.Fatalf("%+v\n%s is no, and might be yes: %v", p, name, v)
					}
					is = is && said == [2]bool{send, sync}
				}
				itself = itself || is
			})
			if !itself {
				t.Fatalf("%+v\nwhat is told doesn't keep to the rules", p)
			}
			if keep > 1 {
				several++
			}
		})
	}
	if several < 1000 {
		t.Error(several, "programs of which several things may be said")
	}
}

// P9.4: with a field more nothing is Send, is Sync that wasn't.
func TestMoreHasLess(t *testing.T) {
	less, as := 0, 0
	scattered(t, 29, 4000, true, func(m *maker, p api.Program) {
		more := tree.Copy(p)
		x := &more.Items[m.below(len(more.Items))]
		x.Fields = slices.Insert(x.Fields, m.below(len(x.Fields)+1), api.Field{Name: "V", Type: m.kind(4)})
		for i := range 8 {
			kind := m.kind(4)
			if i < 4 {
				kind = named(names()[i])
			}
			send, sync := Send(more, kind), Sync(more, kind)
			if send && !Send(p, kind) || sync && !Sync(p, kind) {
				t.Fatalf("%+v\nwith a field more of %s: %+v", p, x.Name, kind)
			}
			if told(p, kind) != told(more, kind) {
				less++
			} else {
				as++
			}
		}
	})
	if less < 500 || as < 5000 {
		t.Error(less, as)
	}
}
