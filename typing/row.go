package typing

import (
	"weftway/api"
	"weftway/types"
)

// that is in a row whatever type stands there, the same one wherever the row has it: the chapter's T. Of a kind that has another type it is that one.
const that uint8 = 255

// row is what an operator asks of its place and of each of its Args, and what it gives; 0 where there is none.
type row struct {
	place, args, gives uint8
}

// rows has one for each operator but those that name an item.
var rows = [...]row{
	api.EInt:    {gives: api.TInt},
	api.EBool:   {gives: api.TBool},
	api.EUnit:   {gives: api.TUnit},
	api.EUse:    {place: that, gives: that},
	api.EShare:  {place: that, gives: api.TRef},
	api.EMut:    {place: that, gives: api.TMut},
	api.ENeg:    {args: api.TInt, gives: api.TInt},
	api.ENot:    {args: api.TBool, gives: api.TBool},
	api.EAdd:    {args: api.TInt, gives: api.TInt},
	api.ESub:    {args: api.TInt, gives: api.TInt},
	api.EMul:    {args: api.TInt, gives: api.TInt},
	api.EDiv:    {args: api.TInt, gives: api.TInt},
	api.EMod:    {args: api.TInt, gives: api.TInt},
	api.ELess:   {args: api.TInt, gives: api.TBool},
	api.EEqual:  {args: api.TInt, gives: api.TBool},
	api.EAnd:    {args: api.TBool, gives: api.TBool},
	api.EOr:     {args: api.TBool, gives: api.TBool},
	api.EBox:    {args: that, gives: api.TBox},
	api.EUnbox:  {args: api.TBox, gives: that},
	api.ECell:   {args: that, gives: api.TCell},
	api.EGet:    {place: api.TCell, gives: that},
	api.ESet:    {place: api.TCell, args: that, gives: api.TUnit},
	api.ERc:     {args: that, gives: api.TRc},
	api.EArc:    {args: that, gives: api.TArc},
	api.EClone:  {place: that, gives: that},
	api.EMutex:  {args: that, gives: api.TMutex},
	api.EOpen:   {args: api.TMutex, gives: that},
	api.EAtomic: {args: api.TInt, gives: api.TAtomic},
	api.ELoad:   {place: api.TAtomic, gives: api.TInt},
	api.EStore:  {place: api.TAtomic, args: api.TInt, gives: api.TUnit},
	api.EFetch:  {place: api.TAtomic, args: api.TInt, gives: api.TInt},
	api.ESend:   {place: api.TSender, args: that, gives: api.TUnit},
	api.ERecv:   {place: api.TReceiver, gives: that},
}

// found is what a row's T is, once something has told it.
type found struct {
	that  api.Type
	known bool
}

// fits says whether a type is what a row asks for; the first one that has the row's T in it tells what that is.
func (f *found) fits(asked uint8, t api.Type) bool {
	switch {
	case asked == that && !f.known:
		f.that, f.known = t, true
		return true
	case asked == that:
		return types.Same(t, f.that)
	case hasPart(asked):
		part, ok := partOf(asked, t)
		return ok && f.fits(that, part)
	}
	return types.Same(t, plain(asked))
}

// gives is the type that a row has for what it gives.
func (f *found) gives(kind uint8) api.Type {
	switch {
	case kind == that:
		return f.that
	case hasPart(kind):
		return of(kind, f.that)
	}
	return plain(kind)
}
