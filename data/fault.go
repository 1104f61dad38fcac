package data

import "gazetteer/api"

// fault: what is wrong, and the number of the word where it stands (0 of
// bytes). It is thrown where it is found, and caught by the listed calls.
type fault struct {
	code api.Errno
	at   int
}

func throw(code api.Errno, at int) { panic(fault{code, at}) }

// faultOf: what a listed call caught; no fault if it caught nothing.
func faultOf(caught any) fault {
	switch f := caught.(type) {
	case nil:
		return fault{}
	case fault:
		return f
	}
	// Nothing else is thrown here: to keep it back would hide a mistake.
	panic(caught)
}
