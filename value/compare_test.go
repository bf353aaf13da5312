package value_test

import (
	"math"
	"math/big"
	"math/rand/v2"
	"strings"
	"testing"

	"penstock/api"
	"penstock/value"
)

// unlike is values of which no two are the same.
func unlike() []api.Value {
	return []api.Value{
		{}, text(""), text("a"), text("b"), raw(""), raw("a"), truth(false), truth(true),
		whole(0), whole(1), whole(-1), whole(1<<53 + 1), whole(1 << 53),
		part(0), part(minus), part(1), part(1 << 53), part(math.Inf(1)), part(math.Inf(-1)),
		bits(0x7ff8000000000001), bits(0x7ff8000000000002), bits(0xfff8000000000001), bits(0x7ff0000000000001),
		list(), list(api.Value{}), list(whole(1)), list(part(1)), list(part(0)), list(part(minus)), list(whole(1), whole(2)), list(whole(2), whole(1)), list(list()), list(list(whole(1))),
		table(), table(pair("", api.Value{})), table(pair("a", api.Value{})), table(pair("a", whole(1))), table(pair("b", whole(1))),
		table(pair("a", whole(1)), pair("b", whole(2))), table(pair("b", whole(2)), pair("a", whole(1))), table(pair("a", table())), table(pair("a", bits(0x7ff8000000000003)), pair("b", whole(2))),
		{Kind: api.KindInt, S: "a"}, {Kind: api.KindInt, F: 1}, {Kind: api.KindInt, F: minus}, {Kind: api.KindInt, B: true}, {Kind: api.KindInt, List: []api.Value{{}}}, {Kind: api.KindInt, Pairs: []api.Pair{{}}},
		{Kind: api.KindText, N: 1}, {Kind: api.KindFloat, N: 1}, {Kind: api.KindCount}, {Kind: 255},
	}
}

func TestP21Same(t *testing.T) {
	l := unlike()
	for i, a := range l {
		for j, b := range l {
			if is := value.Same(a, twin(b)); is != (i == j) {
				t.Errorf("Same of %v and %v: %v", a, b, is)
			}
			if is := value.SamePairs([]api.Pair{pair("k", a)}, []api.Pair{pair("k", twin(b))}); is != (i == j) {
				t.Errorf("SamePairs of %v and %v: %v", a, b, is)
			}
		}
	}
	if !value.Same(list(), api.Value{Kind: api.KindList, List: []api.Value{}, Pairs: []api.Pair{}}) {
		t.Error("Same: nil and empty lists are alike")
	}
}

func TestP21SamePairs(t *testing.T) {
	a, b, c := pair("a", whole(1)), pair("b", whole(1)), pair("a", whole(2))
	for i, x := range []struct {
		a, b []api.Pair
		is   bool
	}{
		{nil, []api.Pair{}, true},
		{[]api.Pair{}, nil, true},
		{nil, []api.Pair{{}}, false},
		{[]api.Pair{{}}, nil, false},
		{[]api.Pair{a}, []api.Pair{a}, true},
		{[]api.Pair{a}, []api.Pair{b}, false},
		{[]api.Pair{a}, []api.Pair{c}, false},
		{[]api.Pair{a, b}, []api.Pair{a, b}, true},
		{[]api.Pair{a, b}, []api.Pair{b, a}, false},
		{[]api.Pair{a, b}, []api.Pair{a}, false},
		{[]api.Pair{a}, []api.Pair{a, b}, false},
		{[]api.Pair{a, a}, []api.Pair{a, a}, true},
		{[]api.Pair{a, a}, []api.Pair{a, c}, false},
	} {
		if is := value.SamePairs(x.a, x.b); is != x.is {
			t.Errorf("SamePairs, %d: %v", i, is)
		}
	}
}

// numbers is numbers at the edges of ints and floats.
func numbers() []api.Value {
	var l []api.Value
	for _, n := range []int64{0, 1, 2, 3, 1<<53 - 1, 1 << 53, 1<<53 + 1, 1<<53 + 2, 1<<62 - 1, 1 << 62, 1<<62 + 1, math.MaxInt64 - 1, math.MaxInt64} {
		l = append(l, whole(n), whole(-n), whole(-n-1), part(float64(n)), part(-float64(n)), part(math.Nextafter(float64(n), math.Inf(1))), part(math.Nextafter(float64(n), math.Inf(-1))), part(-math.Nextafter(float64(n), math.Inf(1))))
	}
	for _, f := range []float64{0.5, 0.25, 1.5, math.Inf(1), math.MaxFloat64, math.SmallestNonzeroFloat64, 1 << 63, 1 << 64, 1e300, 1<<63 - 1024, 1<<63 + 2048} {
		l = append(l, part(f), part(-f))
	}
	return append(l, part(minus))
}

func exact(v api.Value) *big.Float {
	if v.Kind == api.KindInt {
		return new(big.Float).SetInt64(v.N)
	}
	return new(big.Float).SetFloat64(v.F)
}

func TestP21CompareNumbers(t *testing.T) {
	l := numbers()
	for _, a := range l {
		for _, b := range l {
			want := exact(a).Cmp(exact(b))
			if c, is := value.Compare(a, b); c != want || !is {
				t.Errorf("Compare of %d, %g and %d, %g: %d, %v, want %d", a.N, a.F, b.N, b.F, c, is, want)
			}
		}
	}
	r := rand.New(rand.NewPCG(2, 1))
	for range 20000 {
		a := whole(int64(r.Uint64()) >> r.IntN(64))
		b := part(float64(a.N+int64(r.IntN(5))-2) + []float64{0, 0.5, -0.5, 0.001}[r.IntN(4)])
		if c, is := value.Compare(a, b); c != exact(a).Cmp(exact(b)) || !is {
			t.Errorf("Compare of %d and %g: %d, %v", a.N, b.F, c, is)
		}
	}
}

func TestP21CompareTexts(t *testing.T) {
	l := []string{"", "\x00", "\x00a", "A", "Z", "a", "a\x00", "aa", "ab", "b", "é", "\uffff", "\U00010000", "\xff"} // by bytes
	for i, a := range l {
		for j, b := range l {
			want := max(-1, min(1, i-j))
			if c, is := value.Compare(text(a), text(strings.Clone(b))); c != want || !is {
				t.Errorf("Compare of %q and %q: %d, %v", a, b, c, is)
			}
		}
	}
}

func TestP21CompareWithoutOrder(t *testing.T) {
	nan, others := bits(0x7ff8000000000001), []api.Value{{}, truth(false), truth(true), list(), list(whole(1)), table(), table(pair("a", whole(1))), raw(""), raw("a"), {Kind: api.KindCount}, {Kind: 255}}
	check := func(a, b api.Value) {
		t.Helper()
		for range 2 {
			if c, is := value.Compare(a, b); c != 0 || is {
				t.Errorf("Compare of %v and %v: %d, %v", a, b, c, is)
			}
			a, b = b, a
		}
	}
	for _, a := range others {
		for _, b := range append(others, whole(0), whole(1), part(1), part(0), text(""), text("a"), nan) {
			check(a, b)
		}
	}
	for _, a := range append(numbers(), nan, bits(0xfff0000000000001), text(""), text("a"), text("1")) {
		check(a, nan)
	}
	for _, a := range numbers() {
		check(a, text("1"))
	}
}

func TestP26Order(t *testing.T) {
	l := append(numbers(), text(""), text("a"), text("b"), bits(0x7ff8000000000001), raw("a"), list())
	for _, a := range l {
		self, is := value.Compare(a, a)
		number := a.Kind == api.KindInt || a.Kind == api.KindFloat && !math.IsNaN(a.F)
		if self != 0 || is != (number || a.Kind == api.KindText) {
			t.Errorf("Compare of %v and itself: %d, %v", a, self, is)
		}
		for _, b := range l {
			ab, one := value.Compare(a, b)
			ba, two := value.Compare(b, a)
			if ab != -ba || one != two {
				t.Errorf("Compare of %v and %v is not turned round: %d, %d", a, b, ab, ba)
			}
			for _, c := range l {
				bc, three := value.Compare(b, c)
				if ac, _ := value.Compare(a, c); one && three && ab <= 0 && bc <= 0 && ac > 0 {
					t.Errorf("Compare of %v, %v, %v is no order: %d, %d, %d", a, b, c, ab, bc, ac)
				}
			}
		}
	}
}
