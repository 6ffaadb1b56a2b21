package code

import (
	"math"
	"slices"
	"strings"
	"testing"

	"weftway/api"
)

// P17.3: the Op's name, and each field that it has, in their order.
func TestText(t *testing.T) {
	for _, c := range []struct {
		x    api.Instr
		want string
	}{
		{api.Instr{Op: api.OLive, A: 3}, "live 3"}, {api.Instr{Op: api.ODead}, "dead 0"},
		{api.Instr{Op: api.OConst, A: int(api.VInt), Int: 5}, "const 1 5"}, {api.Instr{Op: api.OConst, A: int(api.VBool)}, "const 2 0"}, {api.Instr{Op: api.OConst, A: int(api.VUnit)}, "const 3 0"}, {api.Instr{Op: api.OConst, A: int(api.VInt), Int: -17}, "const 1 -17"},
		{api.Instr{Op: api.OUse, A: 2, Path: path(".a.*")}, "use 2 .a.*"}, {api.Instr{Op: api.OUse, A: 2}, "use 2"}, {api.Instr{Op: api.ORef, A: 1, Path: path(".*")}, "ref 1 .*"}, {api.Instr{Op: api.OMut, Path: path(".field")}, "mut 0 .field"},
		{api.Instr{Op: api.OPut, A: 10, Path: []string{}}, "put 10"}, {api.Instr{Op: api.ODrop, A: 2, Path: path(".*.*.a")}, "drop 2 .*.*.a"},
		{api.Instr{Op: api.OUnary, A: int(api.ENeg)}, "unary 7"}, {api.Instr{Op: api.OBinary, A: int(api.EAdd)}, "binary 9"}, {api.Instr{Op: api.OBinary, A: int(api.EOr)}, "binary 17"},
		{api.Instr{Op: api.OStruct, B: 2, Name: "S"}, "struct 2 S"}, {api.Instr{Op: api.OEnum, A: 4, B: 1, Name: "E"}, "enum 4 1 E"}, {api.Instr{Op: api.OSplit, B: 0, Name: "S"}, "split 0 S"},
		{api.Instr{Op: api.OJump, A: 12}, "jump 12"}, {api.Instr{Op: api.OBranch, A: 0}, "branch 0"},
		{api.Instr{Op: api.OSwitch, Name: "E", Slots: []int{4, 7}}, "switch 4,7 E"}, {api.Instr{Op: api.OSwitch, Name: "E", Slots: []int{4}}, "switch 4 E"}, {api.Instr{Op: api.OSwitch, Name: "E"}, "switch E"}, {api.Instr{Op: api.OSwitch, Name: "E", Slots: []int{}}, "switch E"}, {api.Instr{Op: api.OSwitch, Slots: []int{0, 0, 10}}, "switch 0,0,10"}, {api.Instr{Op: api.OSwitch}, "switch"},
		{api.Instr{Op: api.OCall, A: 1, B: 2}, "call 1 2"}, {api.Instr{Op: api.OReturn}, "return"}, {api.Instr{Op: api.OWrap, A: int(api.VBox)}, "wrap 6"}, {api.Instr{Op: api.OUnwrap, A: int(api.VMutex)}, "unwrap 10"},
		{api.Instr{Op: api.OClone, A: 1}, "clone 1"}, {api.Instr{Op: api.OCellGet, A: 1, Path: path(".c")}, "cellget 1 .c"}, {api.Instr{Op: api.OCellSet, A: 1}, "cellset 1"}, {api.Instr{Op: api.OLoad, A: 1}, "load 1"}, {api.Instr{Op: api.OStore, A: 1}, "store 1"}, {api.Instr{Op: api.OFetch, A: 1}, "fetch 1"},
		{api.Instr{Op: api.OChan, Int: 8}, "chan 8"}, {api.Instr{Op: api.OSend, A: 1}, "send 1"}, {api.Instr{Op: api.ORecv, A: 1}, "recv 1"},
		{api.Instr{Op: api.OLock, A: 1, Path: path(".m.*"), B: 2}, "lock 1 .m.* 2"}, {api.Instr{Op: api.OLock, A: 1, B: 2}, "lock 1 2"}, {api.Instr{Op: api.OUnlock}, "unlock"},
		{api.Instr{Op: api.OScope}, "scope"}, {api.Instr{Op: api.OSpawn, A: 1, B: 0}, "spawn 1 0"}, {api.Instr{Op: api.OJoin}, "join"},
	} {
		if s := Text(c.x); s != c.want {
			t.Errorf("%q, want %q", s, c.want)
		}
	}
}

// P17.3: of an Op that there isn't, whatever else there is.
func TestTextOfNoOp(t *testing.T) {
	for op := range 256 {
		if there := 1 <= op && op <= 34; (Text(api.Instr{Op: uint8(op), A: 1, B: 2, C: 3, Slots: []int{4}, Path: path(".a"), Int: 5, Name: "S", Names: []string{"x"}}) == "?") == there {
			t.Error(op)
		}
	}
}

// P17.3: the fields that an Op hasn't are never told, even if they aren't zero.
func TestTextOfOtherFields(t *testing.T) {
	all := api.Instr{A: 1, B: 2, C: 3, Slots: []int{4, 5}, Path: path(".a.*"), Int: 6, Name: "S", Names: []string{"x"}}
	wants := strings.Fields("live_1 dead_1 const_1_6 use_1_.a.* ref_1_.a.* mut_1_.a.* put_1_.a.* drop_1_.a.* unary_1 binary_1 struct_2_S enum_1_2_S split_2_S jump_1 branch_1 switch_4,5_S call_1_2 return wrap_1 unwrap_1 " +
		"clone_1_.a.* cellget_1_.a.* cellset_1_.a.* load_1_.a.* store_1_.a.* fetch_1_.a.* chan_6 send_1_.a.* recv_1_.a.* lock_1_.a.*_2 unlock scope spawn_1_2 join")
	for i, want := range wants {
		all.Op = api.OLive + uint8(i)
		if s := Text(all); s != strings.ReplaceAll(want, "_", " ") {
			t.Errorf("%q, want %q", s, want)
		}
	}
	if len(wants) != int(api.OJoin) {
		t.Error(len(wants))
	}
}

// P17.3: an instruction that may not be has a text, too.
func TestTextOfWhatMayNotBe(t *testing.T) {
	for _, c := range []struct {
		x    api.Instr
		want string
	}{
		{api.Instr{Op: api.OLive, A: -3}, "live -3"}, {api.Instr{Op: api.OJump, A: math.MinInt}, "jump -9223372036854775808"}, {api.Instr{Op: api.OChan, Int: math.MaxInt64}, "chan 9223372036854775807"}, {api.Instr{Op: api.OConst, A: 99, Int: math.MinInt64}, "const 99 -9223372036854775808"},
		{api.Instr{Op: api.OSwitch, Slots: []int{-1, 0, 1, 2, 3, 4, 5, 6}, Name: "a b"}, "switch -1,0,1,2,3,4,5,6 a b"}, {api.Instr{Op: api.OStruct, B: -2}, "struct -2"},
		{api.Instr{Op: api.OUse, Path: []string{""}}, "use 0 ."}, {api.Instr{Op: api.OUse, Path: []string{"", "a", ""}}, "use 0 ..a."}, {api.Instr{Op: api.OLock, Path: []string{"."}, B: -1}, "lock 0 .. -1"},
		{api.Instr{Op: api.OEnum, Name: long(40)}, "enum 0 0 " + long(40)}, {api.Instr{Op: api.OSplit, Name: "\xff"}, "split 0 \xff"},
	} {
		if s := Text(c.x); s != c.want {
			t.Errorf("%q, want %q", s, c.want)
		}
	}
	deep := Text(api.Instr{Op: api.OUse, Path: slices.Repeat([]string{"a"}, 500000)})
	wide := Text(api.Instr{Op: api.OSwitch, Slots: make([]int, 500000)})
	if len(deep) != len("use 0 ")+1000000 || len(wide) != len("switch ")+999999 {
		t.Error(len(deep), len(wide))
	}
}

// P17.4: the number of the field, of the first struct of that name; an enum is none.
func TestField(t *testing.T) {
	u := api.Unit{Types: []api.Item{
		{Kind: api.IEnum, Name: "S", Fields: fields("x", "a", "c")},
		{Kind: api.IStruct, Name: "T", Fields: fields("c", "b", "a", "b")},
		{Kind: api.IStruct, Name: "S", Fields: fields("a", "b")},
		{Kind: api.IStruct, Name: "S", Fields: fields("b", "c", "a")},
		{Kind: api.IFn, Name: "f", Fields: fields("a")},
		{Kind: 0, Name: "N", Fields: fields("a")},
		{Kind: api.IStruct, Name: "None"},
		{Kind: api.IStruct, Name: "Six", Fields: fields("a", "b", "c", "d", "e", "f", "g")},
		{Kind: api.IEnum, Name: "E", Fields: fields("A", "B")},
	}}
	for text, want := range map[string]int{
		"S a": 0, "S b": 1, "S c": -1, "S x": -1, "T c": 0, "T b": 1, "T a": 2, "T d": -1, "f a": -1, "N a": -1, "None a": -1, "Six a": 0, "Six f": 5, "Six g": 6, "Six h": -1,
		"E A": -1, "E B": -1, "s a": -1, "S A": -1, "U a": -1, "S S": -1, "a S": -1, "SS a": -1, "S *": -1,
	} {
		name, field, _ := strings.Cut(text, " ")
		if n, ok := Field(u, name, field); ok != (want >= 0) || n != max(want, 0) {
			t.Error(text, n, ok)
		}
	}
	for _, name := range []string{"", "S"} {
		if n, ok := Field(u, name, ""); n != 0 || ok {
			t.Error(name, n, ok)
		}
		if n, ok := Field(api.Unit{}, name, "a"); n != 0 || ok {
			t.Error(name, n, ok)
		}
	}
	if n, ok := Field(unit(), "S", "b"); n != 1 || !ok {
		t.Error(n, ok)
	}
}

// P17.4: where an instruction may jump to; the slots of a switch are told as they are.
func TestJumps(t *testing.T) {
	for op := range 256 {
		x := api.Instr{Op: uint8(op), A: 5, B: 6, C: 7, Int: 8, Slots: []int{4, 7, 4}}
		var want []int
		switch x.Op {
		case api.OJump, api.OBranch:
			want = []int{5}
		case api.OSwitch:
			want = []int{4, 7, 4}
		}
		if l := Jumps(x); !slices.Equal(l, want) {
			t.Error(op, l)
		}
	}
	for _, c := range []struct {
		x    api.Instr
		want []int
	}{
		{api.Instr{Op: api.OJump}, []int{0}}, {api.Instr{Op: api.OBranch, A: -3}, []int{-3}}, {api.Instr{Op: api.OJump, A: math.MaxInt}, []int{math.MaxInt}},
		{api.Instr{Op: api.OSwitch}, nil}, {api.Instr{Op: api.OSwitch, Slots: []int{}}, nil}, {api.Instr{Op: api.OSwitch, Slots: []int{9, -1, 0, 1, 2, 3, 4, 5}}, []int{9, -1, 0, 1, 2, 3, 4, 5}},
	} {
		if l := Jumps(c.x); !slices.Equal(l, c.want) {
			t.Error(c.x, l)
		}
	}
}
