package typing

import (
	"testing"

	"weftway/api"
)

// A look is left by its first fault; what isn't a fault goes on.
func TestFirstFault(t *testing.T) {
	if got := firstFault(func() { must(true, api.ErrType, 1) }); got != (api.Fault{}) {
		t.Error(got)
	}
	if got := firstFault(func() { must(false, api.ErrMove, 3); must(false, api.ErrType, 4) }); got != (api.Fault{Err: api.ErrMove, At: 3}) {
		t.Error(got)
	}
	defer func() {
		if left := recover(); left != "other" {
			t.Error(left)
		}
	}()
	firstFault(func() { panic("other") })
}
