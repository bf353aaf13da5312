package value_test

import (
	"math"
	"math/rand/v2"
	"strings"
	"testing"

	"penstock/api"
	"penstock/value"
)

var minus = math.Copysign(0, -1)

func text(s string) api.Value       { return api.Value{Kind: api.KindText, S: s} }
func raw(s string) api.Value        { return api.Value{Kind: api.KindBytes, S: s} }
func truth(b bool) api.Value        { return api.Value{Kind: api.KindBool, B: b} }
func whole(n int64) api.Value       { return api.Value{Kind: api.KindInt, N: n} }
func part(f float64) api.Value      { return api.Value{Kind: api.KindFloat, F: f} }
func bits(n uint64) api.Value       { return part(math.Float64frombits(n)) }
func list(l ...api.Value) api.Value { return api.Value{Kind: api.KindList, List: l} }
func table(l ...api.Pair) api.Value { return api.Value{Kind: api.KindMap, Pairs: l} }

func pair(key string, v api.Value) api.Pair { return api.Pair{Key: key, Value: v} }

// nested is v with so many lists and maps around it, in turn.
func nested(v api.Value, n int) api.Value {
	for i := range n {
		if i%2 == 0 {
			v = list(v)
		} else {
			v = table(pair("k", v))
		}
	}
	return v
}

// lists is v with so many lists around it, maps with so many maps.
func lists(v api.Value, n int) api.Value {
	for range n {
		v = list(v)
	}
	return v
}

func maps(v api.Value, n int) api.Value {
	for range n {
		v = table(pair("", v))
	}
	return v
}

// times is n values that are v.
func times(v api.Value, n int) []api.Value {
	l := make([]api.Value, n)
	for i := range l {
		l[i] = v
	}
	return l
}

// keyed is n pairs with keys of their own.
func keyed(v api.Value, n int) []api.Pair {
	l := make([]api.Pair, n)
	for i := range l {
		l[i] = pair(string(rune('a'+i/26))+string(rune('a'+i%26)), v)
	}
	return l
}

// same and samePairs hold values against each other without the package that is tested.
func same(a, b api.Value) bool {
	if a.Kind != b.Kind || a.S != b.S || a.B != b.B || a.N != b.N || math.Float64bits(a.F) != math.Float64bits(b.F) || len(a.List) != len(b.List) {
		return false
	}
	for i := range a.List {
		if !same(a.List[i], b.List[i]) {
			return false
		}
	}
	return samePairs(a.Pairs, b.Pairs)
}

func samePairs(a, b []api.Pair) bool {
	if len(a) != len(b) {
		return false
	}
	for i := range a {
		if a[i].Key != b[i].Key || !same(a[i].Value, b[i].Value) {
			return false
		}
	}
	return true
}

// twin is v with memory of its own.
func twin(v api.Value) api.Value {
	v.List = append([]api.Value(nil), v.List...)
	for i := range v.List {
		v.List[i] = twin(v.List[i])
	}
	v.Pairs = twins(v.Pairs)
	return v
}

func twins(l []api.Pair) []api.Pair {
	l = append([]api.Pair(nil), l...)
	for i := range l {
		l[i].Value = twin(l[i].Value)
	}
	return l
}

// spoil writes into all memory that v has, also behind the ends of its lists.
func spoil(v api.Value) {
	for i := range v.List {
		spoil(v.List[i])
		v.List[i] = text("spoilt")
	}
	for i := range v.List[len(v.List):cap(v.List)] {
		v.List[:cap(v.List)][len(v.List)+i] = text("spoilt")
	}
	spoilPairs(v.Pairs)
}

func spoilPairs(l []api.Pair) {
	for i := range l {
		spoil(l[i].Value)
		l[i] = pair("spoilt", text("spoilt"))
	}
	for i := range l[len(l):cap(l)] {
		l[:cap(l)][len(l)+i] = pair("spoilt", text("spoilt"))
	}
}

// cells is where the lists of v are, with the room behind them.
func cells(v api.Value) []any {
	var out []any
	for i := range v.List[:cap(v.List)] {
		out = append(out, &v.List[:cap(v.List)][i])
	}
	for _, x := range v.List {
		out = append(out, cells(x)...)
	}
	return append(out, cellsOfPairs(v.Pairs)...)
}

func cellsOfPairs(l []api.Pair) []any {
	var out []any
	for i := range l[:cap(l)] {
		out = append(out, &l[:cap(l)][i])
	}
	for _, p := range l {
		out = append(out, cells(p.Value)...)
	}
	return out
}

// checkApart tells whether the answers have a cell that was handed in, or one twice.
func checkApart(t *testing.T, name string, handed, answers []any) {
	t.Helper()
	taken := map[any]int{}
	for _, x := range handed {
		taken[x]++
	}
	for _, x := range answers {
		if taken[x] > 0 {
			t.Errorf("%s: lists share memory", name)
			return
		}
		taken[x]++
	}
}

// some is any right value with at most so many lists and maps in one another.
func some(r *rand.Rand, deep int) api.Value {
	kinds := 10
	if deep == 0 {
		kinds = 7 // no lists, no maps
	}
	switch r.IntN(kinds) {
	case 0:
		return api.Value{}
	case 1:
		return truth(r.IntN(2) == 0)
	case 2:
		return raw(string([]byte{byte(r.Uint32()), byte(r.Uint32())}[:r.IntN(3)]))
	case 3:
		return whole(int64(r.Uint64()) >> r.IntN(64))
	case 4:
		return bits(r.Uint64())
	case 5:
		return bits([]uint64{0, 1 << 63, 0x7ff0000000000001, 0xfff8000000001234, 0x7ff0000000000000}[r.IntN(5)])
	case 6:
		return text(strings.Repeat("é", r.IntN(4)) + "x"[:r.IntN(2)])
	case 7, 8:
		v := list()
		for range r.IntN(5) {
			v.List = append(v.List, some(r, deep-1))
		}
		return v
	}
	return table(somePairs(r, deep-1)...)
}

func somePairs(r *rand.Rand, deep int) []api.Pair {
	var l []api.Pair
	for i, key := range []string{"", "a", "é", "long key", "z"} {
		if r.IntN(2) == 0 {
			l = append(l, pair(key, some(r, deep)))
		} else if i == 0 {
			l = append(l, pair("other", some(r, deep)))
		}
	}
	r.Shuffle(len(l), func(i, j int) { l[i], l[j] = l[j], l[i] })
	return l
}

// anything is any value at all, also one that is not right.
func anything(r *rand.Rand, deep int) api.Value {
	v := some(r, deep)
	if r.IntN(3) == 0 {
		v.Kind = api.Kind(r.IntN(10))
	}
	if r.IntN(6) == 0 {
		v.S = strings.Repeat("\xc3", r.IntN(3)*api.MaxText)
	}
	if r.IntN(6) == 0 && deep > 0 {
		v.List = append(v.List, anything(r, deep-1))
	}
	if r.IntN(6) == 0 && deep > 0 {
		v.Pairs = append(v.Pairs, pair("a", anything(r, deep-1)), pair("a", api.Value{}))
	}
	return v
}

func checkErr(t *testing.T, name string, why, want api.Errno) {
	t.Helper()
	if why != want {
		t.Errorf("%s: error %d, want %d", name, why, want)
	}
}

// checkValue tells what Check, CheckPairs of a pair with v, and, if v is not right, Write and WritePair say of v.
func checkValue(t *testing.T, name string, v api.Value, want api.Errno) {
	t.Helper()
	checkErr(t, "Check of "+name, value.Check(v), want)
	checkErr(t, "CheckPairs of "+name, value.CheckPairs([]api.Pair{pair("k", v)}), want)
	if want == api.OK {
		return
	}
	s, why := value.Write(v)
	checkErr(t, "Write of "+name, why, want)
	p, whyPair := value.WritePair(pair("k", v))
	checkErr(t, "WritePair of "+name, whyPair, want)
	if s != "" || p != "" {
		t.Errorf("Write of %s: %d and %d bytes beside an error", name, len(s), len(p))
	}
}
