package cross

import (
	"slices"
	"strings"
	"testing"

	"weftway/api"
	"weftway/parse"
	"weftway/typing"
)

// scattered hands on so many programs that are right so far, with their texts and what the scribe knows of them.
func scattered(t *testing.T, seed dice, n int, each func(m *scribe, text string, where map[int]int, p api.Program)) {
	t.Helper()
	m := &scribe{dice: &seed}
	for n > 0 {
		text, where := unnumbered(m.program())
		p, l := parse.Program(text)
		if len(l) > 0 {
			if l[0].Err == api.ErrText {
				t.Fatalf("%s\n%v", text, l)
			}
			// It is too long.
			continue
		}
		if l := typing.Check(p); len(l) > 0 {
			t.Fatalf("%s\n%v", text, l)
		}
		each(m, text, where, p)
		n--
	}
}

// P15.1, P15.2: what the scribe and the second judge know of scattered programs.
func TestScattered(t *testing.T) {
	crossings, told, deep := 0, 0, 0
	kinds, lent := map[string][2]int{}, map[string][2]int{}
	ops := map[uint8]int{}
	scattered(t, 151, 3000, func(m *scribe, text string, where map[int]int, p api.Program) {
		numbers, faults := m.want(where)
		var want []Cross
		var rows []string
		for _, n := range numbers {
			want, rows = append(want, Cross{At: where[n]}), append(rows, squeezed(m.given[n].row))
		}
		got, gotFaults := All(p), Check(p)
		if !sameRows(got, want, rows) {
			t.Fatalf("%s\n%s\nwant %v\n%v", text, textOf(got), rows, want)
		}
		if !slices.Equal(gotFaults, faults) {
			t.Fatalf("%s\n%v, want %v", text, gotFaults, faults)
		}
		if !slices.IsSortedFunc(want, func(a, b Cross) int { return a.At - b.At }) {
			deep++
		}
		crossings, told = crossings+len(got), told+len(faults)
		bad := map[int]int{}
		for _, f := range faults {
			bad[f.At] = 1
		}
		for _, n := range numbers {
			kind, _ := parted(m.given[n].row)
			row, sign := kinds[kind], lent[m.given[n].lent]
			row[bad[where[n]]]++
			sign[bad[where[n]]]++
			kinds[kind], lent[m.given[n].lent] = row, sign
		}
		for _, e := range handedOver(p) {
			ops[e.Op]++
		}
	})
	if crossings < 5000 || told < 1000 || deep < 100 {
		t.Error(crossings, told, deep)
	}
	for _, kind := range strings.Fields("Box Cell Arc Mutex Sender Receiver & &mut P Q W E F Rc int bool unit Atomic") {
		n, never := kinds[kind], strings.Contains(" Rc ", " "+kind+" ")
		always := strings.Contains(" Cell int bool unit Atomic ", " "+kind+" ")
		if n[0] < 5 && !never || n[1] < 5 && !always {
			t.Error(kind, n)
		}
	}
	for _, sign := range []string{"", "&", "&mut "} {
		if n := lent[sign]; n[0] < 100 || n[1] < 100 {
			t.Error(sign, n)
		}
	}
	for op := api.EInt; op <= api.ERecv; op++ {
		if ops[op] == 0 {
			t.Error("none of", op)
		}
	}
}

// handedOver are the expressions of all lists of spawns, as they stand in the text.
func handedOver(p api.Program) []api.Expr {
	var all []api.Expr
	var each func(l []api.Stmt)
	each = func(l []api.Stmt) {
		for _, s := range l {
			if s.Op == api.SSpawn {
				all = append(all, s.Exprs...)
			}
			each(s.Body)
			each(s.Else)
			for _, arm := range s.Arms {
				each(arm.Body)
			}
		}
	}
	for _, x := range p.Items {
		each(x.Body)
	}
	return all
}
