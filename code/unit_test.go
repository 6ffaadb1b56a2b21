package code

import (
	"slices"
	"strings"

	"weftway/api"
)

// unit is one that may be: main of three slots and four instructions; two with two parameters, five slots and six instructions; one with none of these but a parameter.
func unit() api.Unit {
	return api.Unit{
		Funcs: []api.Func{
			{Name: "main", Slots: 3, Code: returns(4)},
			{Name: "two", Params: 2, Slots: 5, Code: returns(6)},
			{Name: "one", Params: 1, Slots: 1},
		},
		Types: []api.Item{
			{Kind: api.IStruct, Name: "S", Fields: fields("a", "b")},
			{Kind: api.IEnum, Name: "E", Fields: fields("A", "B", "C")},
		},
	}
}

func returns(n int) []api.Instr { return slices.Repeat([]api.Instr{{Op: api.OReturn}}, n) }

// fields are of these names, each with a type.
func fields(names ...string) []api.Field {
	var l []api.Field
	for _, name := range names {
		l = append(l, api.Field{Name: name, Type: api.Type{Kind: api.TInt}})
	}
	return l
}

// path is of the steps that a text has behind a dot each.
func path(text string) []string { return strings.Split(text, ".")[1:] }

// long is a text of n bytes.
func long(n int) string { return strings.Repeat("n", n) }

// placeOps are those that have a slot and a path alone.
func placeOps() []uint8 {
	return []uint8{api.OUse, api.ORef, api.OMut, api.OPut, api.ODrop, api.OClone, api.OCellGet, api.OCellSet, api.OLoad, api.OStore, api.OFetch, api.OSend, api.ORecv}
}

// right are instructions that may be in main of unit, one at least of each Op.
func right() []api.Instr {
	l := []api.Instr{
		{Op: api.OLive, A: 1}, {Op: api.ODead, A: 2},
		{Op: api.OConst, A: int(api.VInt), Int: 7}, {Op: api.OConst, A: int(api.VBool), Int: 1}, {Op: api.OConst, A: int(api.VUnit)},
		{Op: api.OUnary, A: int(api.ENot)}, {Op: api.OBinary, A: int(api.EAdd)},
		{Op: api.OStruct, B: 2, Name: "S"}, {Op: api.OEnum, A: 1, B: 1, Name: "E"}, {Op: api.OSplit, B: 2, Name: "S"},
		{Op: api.OJump, A: 3}, {Op: api.OBranch, A: 4}, {Op: api.OSwitch, Slots: []int{1, 4}, Name: "E"},
		{Op: api.OCall, A: 1, B: 2}, {Op: api.OReturn}, {Op: api.OWrap, A: int(api.VRc)}, {Op: api.OUnwrap, A: int(api.VMutex)},
		{Op: api.OChan, Int: 3}, {Op: api.OLock, A: 1, Path: path(".a.*"), B: 2}, {Op: api.OUnlock}, {Op: api.OScope}, {Op: api.OSpawn, A: 2, B: 1}, {Op: api.OJoin},
	}
	for _, op := range placeOps() {
		l = append(l, api.Instr{Op: op, A: 2, Path: path(".a.*")})
	}
	return l
}
