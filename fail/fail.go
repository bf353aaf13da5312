// Package fail has faults that panic with an error's number, so that no function on the way has to hand one on, and what catches them.
package fail

import "penstock/api"

// Unless panics with the error, if that which must hold does not.
func Unless(is bool, why api.Errno) {
	if !is {
		panic(why)
	}
}

// On panics with the error, if it is one.
func On(why api.Errno) {
	Unless(why == api.OK, why)
}

// Caught does what is handed in, and is the error's number with which that panicked.
func Caught(do func()) (why api.Errno) {
	defer func() {
		x := recover()
		if x == nil {
			return
		}
		number, is := x.(api.Errno)
		if !is {
			panic(x) // a fault of the program, not of what it was given
		}
		why = number
	}()
	do()
	return api.OK
}
