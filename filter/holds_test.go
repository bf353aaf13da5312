package filter_test

import (
	"math"
	"math/rand/v2"
	"slices"
	"strings"
	"testing"

	"penstock/api"
	"penstock/filter"
)

// full is an item each of whose fields has something, whatever its signal.
func full() api.Item {
	return api.Item{
		Name: "n", Unit: "u", Message: "m", Kind: -3, Start: 5, Time: 1<<64 - 1, Code: 2, Trace: trace, Span: span, Parent: "p",
		Attrs: pairs(pair("f", part(math.NaN())), pair("n", whole(7)), pair("n", whole(8)), pair("", text("empty")), pair("none", api.Value{}), pair("trace", bytes(trace)), pair("span", bytes(span)), pair("parent", bytes("p")), pair("nothing", bytes(""))),
		Body:  list(whole(1), table(pair("k", part(2)))), Point: api.Point{Kind: api.PointInt, N: -9},
	}
}

func TestP152Fields(t *testing.T) {
	resource := pairs(pair("n", text("r")), pair("body", list(whole(1), table(pair("k", part(2))))), pair("n", text("second")), pair("none", api.Value{}), pair("empty", list()))
	for _, x := range []struct {
		s           string
		full, empty bool // of an item that is full, of one that is zero
	}{
		{`name == "n"`, true, false}, {`name == ""`, false, true}, {`name < "nn"`, true, true}, {`name > "N"`, true, false}, {"has(name)", true, true}, {"name == 0", false, false}, {"name == unit", false, true},
		{`unit == "u"`, true, false}, {`unit == ""`, false, true}, {"has(unit)", true, true}, {`unit >= name`, true, true},
		{`message == "m"`, true, false}, {`message == ""`, false, true}, {"has(message)", true, true}, {"message < name", true, false},
		{"kind == -3", true, false}, {"kind == 0", false, true}, {"has(kind)", true, true}, {"kind < -2.5", true, false}, {"kind <= -3.0", true, false},
		{"start == 5", true, false}, {"start == 0", false, true}, {"has(start)", true, true}, {"start > 4.9", true, false},
		{"time == -1", true, false}, {"time == 0", false, true}, {"has(time)", true, true}, {"time < start", true, false}, {"time >= start", false, true},
		{"code == 2", true, false}, {"code == 0", false, true}, {"has(code)", true, true}, {"code >= 2.0", true, false},
		{`trace == attr["trace"]`, true, false}, {`trace == "0123456789abcdef"`, false, false}, {`trace != "0123456789abcdef"`, true, true}, {"has(trace)", true, true}, {"trace == trace", true, true}, {"trace <= trace", false, false}, {`trace == ""`, false, false}, {"trace == span", false, true},
		{`span == attr["span"]`, true, false}, {"has(span)", true, true}, {"span != parent", true, false}, {"span < trace", false, false},
		{`parent == attr["parent"]`, true, false}, {"has(parent)", true, true}, {`parent == attr["nothing"]`, false, false}, {`parent != attr["nothing"]`, true, false},
		{`body == resource["body"]`, true, false}, {"has(body)", true, false}, {"body == body", true, false}, {"body != body", false, false}, {"body != name", true, false}, {"body < 1", false, false}, {"not has(body)", false, true}, {`body != resource["empty"]`, true, false},
		{"value == -9", true, false}, {"value == -9.0", true, false}, {"has(value)", true, false}, {"value == value", true, false}, {"value < 0", true, false}, {"value != name", true, false},
		{`attr["n"] == 7`, true, false}, {`attr["n"] == 8`, false, false}, {`has(attr["n"])`, true, false}, {`has(attr["N"])`, false, false}, {`attr[""] == "empty"`, true, false}, {`has(attr["name"])`, false, false}, {`attr["x"] != attr["x"]`, false, false}, {`attr["x"] == attr["x"]`, false, false}, {`attr["x"] != 1`, false, false}, {`1 != attr["x"]`, false, false},
		{`attr["f"] != attr["f"]`, true, false}, {`attr["f"] == attr["f"]`, false, false}, {`attr["f"] == nan`, false, false}, {`attr["f"] >= 0 or attr["f"] < 0`, false, false},
		{`has(attr["none"])`, true, false}, {`attr["none"] == resource["none"]`, true, false}, {`attr["none"] != name`, true, false}, {`attr["none"] <= attr["none"]`, false, false},
		{`resource["n"] == "r"`, true, true}, {`resource["n"] == "second"`, false, false}, {`has(resource["n"])`, true, true}, {`has(resource["x"])`, false, false}, {`resource["n"] == attr["n"]`, false, false}, {`resource["n"] != attr["n"]`, true, false}, {`has(resource["f"])`, false, false},
		{"true", true, true}, {"false", false, false}, {"not true", false, false}, {"true and false", false, false}, {"false or true", true, true}, {"true == true", true, true}, {"true == false", false, false}, {"true != false", true, true}, {"true < false", false, false}, {"true >= true", false, false}, {"has(false)", true, true},
		{`"x" == "x"`, true, true}, {`"x" < "xy"`, true, true}, {`"" < "x"`, true, true}, {`"x" <= "X"`, false, false}, {"0 == 0.0", true, true}, {"-0 == 0", true, true}, {"0.10 == 0.1", true, true}, {"1 == 1.0", true, true}, {"1.5 > 1", true, true}, {"inf > 999999999999999", true, true}, {"-inf < -999999999999999", true, true}, {"inf == inf", true, true}, {"inf != -inf", true, true}, {"nan == nan", false, false}, {"nan != nan", true, true}, {"nan < inf", false, false}, {"has(nan)", true, true},
	} {
		checkHolds(t, x.s, full(), resource, x.full)
		checkHolds(t, x.s, api.Item{}, resource, x.empty)
		checkHolds(t, "not ("+x.s+")", full(), resource, !x.full)
		checkHolds(t, "("+x.s+") or false", full(), resource, x.full)
		checkHolds(t, "("+x.s+") and true", api.Item{}, resource, x.empty)
	}
}

// TestP152Point has points of each kind.
func TestP152Point(t *testing.T) {
	for k := api.PointNone; k < api.PointCount+2; k++ {
		x := api.Item{Point: api.Point{Kind: k, N: 3, F: 2.5}}
		checkHolds(t, "has(value)", x, nil, k == api.PointInt || k == api.PointFloat)
		checkHolds(t, "value == 3", x, nil, k == api.PointInt)
		checkHolds(t, "value == 2.5", x, nil, k == api.PointFloat)
		checkHolds(t, "value != 4", x, nil, k == api.PointInt || k == api.PointFloat)
	}
	for _, f := range []float64{minus, 0, math.Inf(1), math.Inf(-1), math.NaN(), 0.1, 5e-324} {
		x := api.Item{Point: api.Point{Kind: api.PointFloat, F: f}}
		checkHolds(t, "value == 0", x, nil, f == 0)
		checkHolds(t, "value == inf", x, nil, math.IsInf(f, 1))
		checkHolds(t, "value == 0.1", x, nil, f == 0.1)
		checkHolds(t, "value != value", x, nil, math.IsNaN(f))
		checkHolds(t, "value > 0", x, nil, f > 0)
	}
}

// TestP152Times has start and time as what they are modulo 2^64.
func TestP152Times(t *testing.T) {
	for n, want := range map[uint64]string{0: "0", 1: "1", 1<<63 - 1: "9223372036854775807", 1 << 63: "-9223372036854775808", 1<<64 - 1: "-1", 1<<64 - 2: "-2"} {
		x := api.Item{Start: n, Attrs: pairs(pair("n", whole(int64(n))))}
		y := api.Item{Time: n, Attrs: x.Attrs}
		checkHolds(t, `start == attr["n"]`, x, nil, true)
		checkHolds(t, `time == attr["n"]`, y, nil, true)
		checkHolds(t, "start < 0", x, nil, strings.HasPrefix(want, "-"))
		checkHolds(t, "time < 0", y, nil, strings.HasPrefix(want, "-"))
	}
	checkHolds(t, "kind == -2147483648.0", api.Item{Kind: -1 << 31}, nil, true)
	checkHolds(t, "code == 255", api.Item{Code: 255}, nil, true)
}

// several are values of each kind, at their edges.
func several() []api.Value {
	l := []api.Value{{}, text(""), text("a"), text("ab"), text("b"), text("\xff"), text("1"), truth(false), truth(true), bytes(""), bytes("a"), bytes("ab")}
	for _, n := range []int64{0, 1, -1, 2, 1 << 53, 1<<53 + 1, 1<<63 - 1, -1 << 63} {
		l = append(l, whole(n))
	}
	for _, f := range []float64{0, minus, 1, -1, 1.5, 1 << 53, 1 << 63, -1 << 63, math.Inf(1), math.Inf(-1), math.NaN(), math.Float64frombits(0x7ff0000000000001), 5e-324} {
		l = append(l, part(f))
	}
	return append(l, list(), list(whole(1)), list(whole(1), whole(2)), list(part(math.NaN())), list(part(0)), list(part(minus)), table(), table(pair("a", whole(1))), table(pair("a", part(1))), table(pair("b", whole(1))))
}

// TestP152Each has each of the six with each two values, and nothing, on each side.
func TestP152Each(t *testing.T) {
	for _, a := range several() {
		for _, b := range several() {
			x, resource := api.Item{Attrs: pairs(pair("a", a)), Body: b}, pairs(pair("x", whole(1)), pair("b", b))
			for k, word := range sixWords() {
				want := modelSix(api.PredEqual+api.PredKind(k), a, b, true, true)
				checkHolds(t, `attr["a"] `+word+` resource["b"]`, x, resource, want)
				checkHolds(t, `attr["a"] `+word+` body`, x, resource, want && b.Kind != api.KindNone)
				checkHolds(t, `resource["b"] `+word+` attr["a"]`, x, resource, modelSix(api.PredEqual+api.PredKind(k), b, a, true, true))
				checkHolds(t, `attr["z"] `+word+` resource["b"]`, x, resource, false)
				checkHolds(t, `attr["a"] `+word+` resource["z"]`, x, resource, false)
				checkHolds(t, `resource["a"] `+word+` attr["b"]`, x, resource, false)
				checkHolds(t, `value `+word+` attr["a"]`, x, resource, false)
				checkHolds(t, `attr["a"] `+word+` value`, x, resource, false)
			}
		}
	}
}

// TestP152Equal has by hand which of several are equal: each to itself, and the numbers that are one.
func TestP152Equal(t *testing.T) {
	numbers := [][]api.Value{{whole(0), part(0), part(minus)}, {whole(1), part(1)}, {whole(-1), part(-1)}, {whole(1 << 53), part(1 << 53)}, {whole(-1 << 63), part(-1 << 63)}}
	areOne := func(a, b api.Value) bool {
		isA := func(v api.Value) bool { return same(v, a) }
		isB := func(v api.Value) bool { return same(v, b) }
		return slices.ContainsFunc(numbers, func(l []api.Value) bool { return slices.ContainsFunc(l, isA) && slices.ContainsFunc(l, isB) })
	}
	for i, a := range several() {
		for k, b := range several() {
			want := i == k && !math.IsNaN(a.F) || areOne(a, b)
			x := api.Item{Attrs: pairs(pair("a", a), pair("b", b))}
			checkHolds(t, `attr["a"] == attr["b"]`, x, nil, want)
			checkHolds(t, `attr["a"] != attr["b"]`, x, nil, !want)
		}
	}
}

// TestP152Floats has the float nearest to what stands there.
func TestP152Floats(t *testing.T) {
	for s, f := range map[string]float64{"0.1": 0.1, "0.3": 0.3, "-0.7": -0.7, "1.1": 1.1, "0.00000000000001": 1e-14, "9.99999999999999": 9.99999999999999, "99999999999999.9": 99999999999999.9, "0.123456789": 0.123456789, "-123456.789012345": -123456.789012345, "4503599627370.49": 4503599627370.49, "3.14159265358979": 3.14159265358979} {
		x := api.Item{Point: api.Point{Kind: api.PointFloat, F: f}}
		checkHolds(t, "value == "+s, x, nil, true)
		for _, near := range []float64{math.Inf(1), math.Inf(-1)} {
			x.Point.F = math.Nextafter(f, near)
			checkHolds(t, "value == "+s, x, nil, false)
		}
	}
	r := rand.New(rand.NewPCG(15, 6))
	for range 20000 {
		s := aFloat(r.Int64N(1e15), 1+r.IntN(14))
		v, _ := operandOf(s, api.Item{}, nil)
		is, why := filter.Holds(steps(s, inField("value"), eq), api.Item{Point: api.Point{Kind: api.PointFloat, F: v.F}}, nil)
		check(t, number(s), is, why, true, api.OK)
	}
}

// someItem is any item, be it right or not.
func someItem(r *rand.Rand) api.Item {
	x := api.Item{Name: pick(r, "", "a", "ab"), Unit: pick(r, "", "a"), Message: pick(r, "", "b"), Kind: pick[int32](r, 0, 1, -7, 7), Start: pick[uint64](r, 0, 1, 7, 1<<64-1), Time: pick[uint64](r, 0, 1<<63), Code: pick[uint8](r, 0, 1, 7), Trace: pick(r, "", trace), Span: pick(r, "", trace), Parent: pick(r, "", "a")}
	x.Attrs, x.Body = somePairs(r), pick(r, several()...)
	x.Point = api.Point{Kind: api.PointKind(r.IntN(8)), N: pick[int64](r, 0, 1, -1), F: pick(r, 0, minus, 1.5, -1.5, math.NaN(), math.Inf(1))}
	return x
}

// somePairs may have a key twice.
func somePairs(r *rand.Rand) []api.Pair {
	var l []api.Pair
	for range r.IntN(6) {
		l = append(l, pair(someKey(r), pick(r, several()...)))
	}
	return l
}

func TestP152HoldsModel(t *testing.T) {
	r := rand.New(rand.NewPCG(15, 7))
	had := map[bool]int{}
	for range 30000 {
		x, i, resource := someTruth(r, r.IntN(5)), someItem(r), somePairs(r)
		want := x.holds(i, resource)
		had[want]++
		is, why := filter.Holds(x.steps(), i, resource)
		if is != want || why != api.OK {
			t.Errorf("%s of %s, %s: %v, error %d", x.printed(), brief(i), brief(resource), is, why)
		}
	}
	if had[true] < 5000 || had[false] < 5000 {
		t.Errorf("answers %v", had)
	}
}

// TestP155Logic holds predicates that are put together against their parts.
func TestP155Logic(t *testing.T) {
	r := rand.New(rand.NewPCG(15, 8))
	ask := func(l []api.PredStep, x api.Item, resource []api.Pair) bool {
		is, why := filter.Holds(l, x, resource)
		if why != api.OK {
			t.Fatalf("Holds of %s: error %d", brief(l), why)
		}
		return is
	}
	for range 5000 {
		a, b, x, resource := someTruth(r, r.IntN(3)).steps(), someTruth(r, r.IntN(3)).steps(), someItem(r), somePairs(r)
		isA, isB := ask(a, x, resource), ask(b, x, resource)
		for name, is := range map[string]bool{
			"not":                ask(append(append(steps(), a...), not), x, resource) == !isA,
			"not not":            ask(append(append(steps(), a...), not, not), x, resource) == isA,
			"and":                ask(both(a, b, api.PredAnd), x, resource) == (isA && isB),
			"or":                 ask(both(a, b, api.PredOr), x, resource) == (isA || isB),
			"and, turned round":  ask(both(b, a, api.PredAnd), x, resource) == (isA && isB),
			"or, turned round":   ask(both(b, a, api.PredOr), x, resource) == (isA || isB),
			"neither nor":        ask(append(both(a, b, api.PredOr), not), x, resource) == (!isA && !isB),
			"and true":           ask(both(a, steps(yes), api.PredAnd), x, resource) == isA,
			"or false":           ask(both(steps(no), a, api.PredOr), x, resource) == isA,
			"and what it is not": !ask(both(a, append(append(steps(), a...), not), api.PredAnd), x, resource),
		} {
			if !is {
				t.Errorf("%s of %s and %s", name, brief(a), brief(b))
			}
		}
	}
}

// TestP155NaN tells that NaN is equal to nothing, and unlike all that is something.
func TestP155NaN(t *testing.T) {
	for _, f := range []float64{math.NaN(), math.Float64frombits(0xfff0000000000001), math.Float64frombits(1<<64 - 1)} {
		for _, v := range append(several(), part(f)) {
			x := api.Item{Attrs: pairs(pair("f", part(f)), pair("v", v))}
			for _, one := range []string{"nan", `attr["f"]`} {
				for k, word := range sixWords() {
					checkHolds(t, one+word+`attr["v"]`, x, nil, k == 1)
					checkHolds(t, `attr["v"]`+word+one, x, nil, k == 1)
					checkHolds(t, one+word+`attr["none"]`, x, nil, false)
					checkHolds(t, `body`+word+one, x, nil, false)
				}
			}
		}
	}
}
