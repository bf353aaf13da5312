package value

import (
	"math"
	"unicode/utf8"

	"penstock/api"
	"penstock/fail"
)

// Check tells why v is not right.
func Check(v api.Value) api.Errno {
	return fail.Caught(func() { checkValue(v, 0) })
}

// CheckPairs tells why l is not right.
func CheckPairs(l []api.Pair) api.Errno {
	return fail.Caught(func() { checkPairs(l, 0) })
}

// checkValue is handed how many lists and maps are around v.
func checkValue(v api.Value, around int) {
	fail.Unless(isBare(v), api.ErrType)
	checkLong(v.S)
	fail.Unless(v.Kind != api.KindText || utf8.ValidString(v.S), api.ErrUtf)
	checkMany(len(v.List))
	checkMany(len(v.Pairs))
	if v.Kind == api.KindList || v.Kind == api.KindMap {
		checkDepth(around)
	}
	for _, x := range v.List {
		checkValue(x, around+1)
	}
	checkPairs(v.Pairs, around+1)
}

// isBare tells whether v is of a kind, and fields that this has not are zero.
func isBare(v api.Value) bool {
	k := v.Kind
	return k < api.KindCount &&
		(k == api.KindText || k == api.KindBytes || v.S == "") &&
		(k == api.KindBool || !v.B) &&
		(k == api.KindInt || v.N == 0) &&
		(k == api.KindFloat || math.Float64bits(v.F) == 0) &&
		(k == api.KindList || len(v.List) == 0) &&
		(k == api.KindMap || len(v.Pairs) == 0)
}

func checkPairs(l []api.Pair, around int) {
	checkMany(len(l))
	for _, p := range l {
		checkPair(p, around)
	}
	checkOnce(l)
}

func checkPair(p api.Pair, around int) {
	checkKey(p.Key)
	checkValue(p.Value, around)
}

func checkKey(key string) {
	checkLong(key)
	fail.Unless(utf8.ValidString(key), api.ErrUtf)
}

// checkOnce panics, if a key is there twice.
func checkOnce(l []api.Pair) {
	times := map[string]int{}
	for _, p := range l {
		times[p.Key]++
		fail.Unless(times[p.Key] == 1, api.ErrState)
	}
}

func checkLong(s string) {
	fail.Unless(len(s) <= api.MaxText, api.ErrLong)
}

func checkMany(n int) {
	fail.Unless(n <= api.MaxParts, api.ErrMany)
}

func checkDepth(around int) {
	fail.Unless(around < api.MaxDepth, api.ErrDepth)
}
