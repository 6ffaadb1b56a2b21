package cross

import (
	"slices"
	"testing"

	"weftway/api"
	"weftway/autos"
	"weftway/typing"
)

// P15.3: what a list lends is told just if it is not Sync; what it hands over alone, or moves, just if it is not Send.
func TestShared(t *testing.T) {
	lent, alone, moved := [2]int{}, [2]int{}, [2]int{}
	scattered(t, 153, 600, func(m *scribe, text string, where map[int]int, p api.Program) {
		exprs := map[int]api.Expr{}
		for _, e := range handedOver(p) {
			exprs[e.At] = e
		}
		faults := Check(p)
		for _, c := range All(p) {
			told := 0
			if slices.Contains(faults, api.Fault{Err: api.ErrSend, At: c.At}) {
				told = 1
			}
			right := false
			switch exprs[c.At].Op {
			case api.EShare:
				right = autos.Sync(p, c.Type.Args[0])
				lent[told]++
			case api.EMut:
				right = autos.Send(p, c.Type.Args[0])
				alone[told]++
			default:
				right = autos.Send(p, c.Type)
				moved[told]++
			}
			if right != (told == 0) {
				t.Fatalf("%s\n%d", text, c.At)
			}
		}
	})
	for _, n := range [][2]int{lent, alone, moved} {
		if n[0] < 100 || n[1] < 100 {
			t.Error(lent, alone, moved)
		}
	}
}

// P15.4: without its spawns a program has no crossing; nor has one whose spawns' lists are empty.
func TestNoMore(t *testing.T) {
	had := 0
	scattered(t, 154, 300, func(m *scribe, text string, where map[int]int, p api.Program) {
		had += len(All(p))
		for i, x := range p.Items {
			p.Items[i].Body = spawnless(x.Body)
		}
		if len(typing.Check(p)) > 0 {
			t.Fatal(text)
		}
		if all, faults := All(p), Check(p); all != nil || faults != nil {
			t.Fatalf("%s\n%v %v", text, all, faults)
		}
	})
	if had < 500 {
		t.Error(had)
	}
	all(t, "scope { spawn () { } spawn () { let x = rc(1); let y = x; scope { spawn () { } } } } scope { }", "let x = rc(1); let y = &c; let z = share(o); if true { } while true { } { }")
	told(t, "fn main() -> int { 0 }")
}

func spawnless(l []api.Stmt) []api.Stmt {
	var left []api.Stmt
	for _, s := range l {
		if s.Op == api.SSpawn {
			continue
		}
		s.Body, s.Else = spawnless(s.Body), spawnless(s.Else)
		for i, arm := range s.Arms {
			s.Arms[i].Body = spawnless(arm.Body)
		}
		left = append(left, s)
	}
	return left
}
