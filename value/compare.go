package value

import (
	"cmp"
	"math"

	"penstock/api"
)

// Compare is -1, 0, 1, as a is less than b, equal, more; false, if the two have no order.
func Compare(a, b api.Value) (int, bool) {
	if a.Kind == api.KindText && b.Kind == api.KindText {
		return cmp.Compare(a.S, b.S), true
	}
	if !isOrdered(a) || !isOrdered(b) {
		return 0, false
	}
	if a.Kind == api.KindFloat && b.Kind == api.KindFloat {
		return cmp.Compare(a.F, b.F), true
	}
	if a.Kind == api.KindFloat {
		return -compareMixed(b.N, a.F), true
	}
	if b.Kind == api.KindFloat {
		return compareMixed(a.N, b.F), true
	}
	return cmp.Compare(a.N, b.N), true
}

// isOrdered tells whether v is a number that has an order with others.
func isOrdered(v api.Value) bool {
	return v.Kind == api.KindInt || v.Kind == api.KindFloat && !math.IsNaN(v.F)
}

// compareMixed never makes n a float, since not each int64 is one.
func compareMixed(n int64, f float64) int {
	if f >= 1<<63 {
		return -1
	}
	if f < -1<<63 {
		return 1
	}
	whole := int64(f)
	if n != whole {
		return cmp.Compare(n, whole)
	}
	return cmp.Compare(float64(whole), f) // what f has behind the point tells
}
