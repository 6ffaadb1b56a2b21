package typing

import "weftway/api"

// must leaves the function that is gone through with a fault, unless all is right: behind its first fault nothing is asked of it.
func must(right bool, err api.Errno, at int) {
	if !right {
		panic(api.Fault{Err: err, At: at})
	}
}

// firstFault is the one that the look was left with; its Err is OK, if there was none.
func firstFault(look func()) (fault api.Fault) {
	defer func() {
		switch left := recover().(type) {
		case nil:
		case api.Fault:
			fault = left
		default:
			panic(left)
		}
	}()
	look()
	return fault
}
