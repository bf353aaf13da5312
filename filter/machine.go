package filter

import (
	"penstock/api"
	"penstock/fail"
)

// machine does steps with a stack. What an operand puts there, and what an operator makes of that which it takes, its closures say.
type machine[T any] struct {
	operand  func(api.PredStep) T
	operator func(api.PredStep, ...T) T
}

// run is what stands on the stack behind all steps, the kinds of which are some; it panics with ErrConf, where less stands there than is taken.
func (m machine[T]) run(l []api.PredStep) []T {
	var stack []T
	for _, x := range l {
		takes := kinds[x.Kind].takes
		if takes == 0 {
			stack = append(stack, m.operand(x))
			continue
		}
		at := len(stack) - takes
		fail.Unless(at >= 0, api.ErrConf)
		stack = append(stack[:at], m.operator(x, stack[at:]...))
	}
	return stack
}
