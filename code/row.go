package code

import "weftway/api"

// sort says which numbers may stand in a field.
type sort uint8

const (
	unasked sort = iota // the Op doesn't have the field
	aSlot
	aJump
	aFunction
	itsParams // of the function that A tells
	aConst
	ofConst // what the kind that A tells may have
	aUnary
	aBinary
	howManyFields
	aVariant
	noneOrOne
	aWrap
	anUnwrap
	aRoom
)

// row is what an Op asks for: its name, which numbers stand in A, B and Int, and whether it has a Path, Slots, a Name.
type row struct {
	op                string
	a, b, integer     sort
	path, slots, name bool
}

// rows has one for each Op.
var rows = [...]row{
	api.OLive:    {op: "live", a: aSlot},
	api.ODead:    {op: "dead", a: aSlot},
	api.OConst:   {op: "const", a: aConst, integer: ofConst},
	api.OUse:     {op: "use", a: aSlot, path: true},
	api.ORef:     {op: "ref", a: aSlot, path: true},
	api.OMut:     {op: "mut", a: aSlot, path: true},
	api.OPut:     {op: "put", a: aSlot, path: true},
	api.ODrop:    {op: "drop", a: aSlot, path: true},
	api.OUnary:   {op: "unary", a: aUnary},
	api.OBinary:  {op: "binary", a: aBinary},
	api.OStruct:  {op: "struct", b: howManyFields, name: true},
	api.OEnum:    {op: "enum", a: aVariant, b: noneOrOne, name: true},
	api.OSplit:   {op: "split", b: howManyFields, name: true},
	api.OJump:    {op: "jump", a: aJump},
	api.OBranch:  {op: "branch", a: aJump},
	api.OSwitch:  {op: "switch", slots: true, name: true},
	api.OCall:    {op: "call", a: aFunction, b: itsParams},
	api.OReturn:  {op: "return"},
	api.OWrap:    {op: "wrap", a: aWrap},
	api.OUnwrap:  {op: "unwrap", a: anUnwrap},
	api.OClone:   {op: "clone", a: aSlot, path: true},
	api.OCellGet: {op: "cellget", a: aSlot, path: true},
	api.OCellSet: {op: "cellset", a: aSlot, path: true},
	api.OLoad:    {op: "load", a: aSlot, path: true},
	api.OStore:   {op: "store", a: aSlot, path: true},
	api.OFetch:   {op: "fetch", a: aSlot, path: true},
	api.OChan:    {op: "chan", integer: aRoom},
	api.OSend:    {op: "send", a: aSlot, path: true},
	api.ORecv:    {op: "recv", a: aSlot, path: true},
	api.OLock:    {op: "lock", a: aSlot, path: true, b: aSlot},
	api.OUnlock:  {op: "unlock"},
	api.OScope:   {op: "scope"},
	api.OSpawn:   {op: "spawn", a: aFunction, b: itsParams},
	api.OJoin:    {op: "join"},
}

// rowOf is the Op's row; of an Op that there isn't one that isn't known.
func rowOf(op uint8) row {
	if int(op) < len(rows) {
		return rows[op]
	}
	return row{}
}

func (r row) known() bool { return r.op != "" }
