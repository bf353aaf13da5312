package filter_test

import (
	"math/rand/v2"
	"slices"
	"strings"
	"testing"

	"penstock/api"
	"penstock/filter"
)

func TestP151Print(t *testing.T) {
	name, code := inField("name"), inField("code")
	for want, l := range map[string][]api.PredStep{
		"true":       steps(yes),
		"false":      steps(no),
		"(not true)": steps(yes, not),
		`((name == "GET") and (attr["n"] >= 500))`: steps(name, aText("GET"), eq, ofItem("n"), anInt(500), op(api.PredLeast), and),
		"(not (not false))":                        steps(no, not, not),
		"(true and false)":                         steps(yes, no, and),
		"(true or false)":                          steps(yes, no, or),
		"((true and false) and true)":              steps(yes, no, and, yes, and),
		"(true and (false and true))":              steps(yes, no, yes, and, and),
		"((true or false) and (not true))":         steps(yes, no, or, yes, not, and),
		"(not (true or false))":                    steps(yes, no, or, not),
		"has(name)":                                steps(name, has),
		"(not has(name))":                          steps(name, has, not),
		"(has(name) or has(code))":                 steps(name, has, code, has, or),
		"has(true)":                                steps(yes, has),
		`has(attr["k"])`:                           steps(ofItem("k"), has),
		`has(resource[""])`:                        steps(ofResource(""), has),
		"(name == code)":                           steps(name, code, eq),
		"(name != code)":                           steps(name, code, ne),
		"(name < code)":                            steps(name, code, op(api.PredLess)),
		"(name <= code)":                           steps(name, code, op(api.PredMost)),
		"(name > code)":                            steps(name, code, op(api.PredMore)),
		"(name >= code)":                           steps(name, code, op(api.PredLeast)),
		"(true == false)":                          steps(yes, no, eq),
		"((true == false) and false)":              steps(yes, no, eq, no, and),
	} {
		checkPrint(t, l, want, api.OK)
	}
}

func TestP151PrintOperands(t *testing.T) {
	l := map[string]api.PredStep{
		`""`: aText(""), `"x y"`: aText("x y"), `"\""`: aText(`"`), `"\\"`: aText(`\`), `"\\\"\\"`: aText(`\"\`), `"\\n"`: aText(`\n`), "\"\n\t\x00\xff\"": aText("\n\t\x00\xff"), `"true"`: aText("true"), `"é"`: aText("é"),
		`attr["k"]`: ofItem("k"), `attr["\"\\"]`: ofItem(`"\`), "attr[\"\xff\"]": ofItem("\xff"), `resource["k"]`: ofResource("k"), `resource[" "]`: ofResource(" "), `resource["\"]"]`: ofResource(`"]`),
		"0": anInt(0), "7": anInt(7), "-7": anInt(-7), "100": anInt(100), "999999999999999": anInt(999999999999999), "-999999999999999": anInt(-999999999999999),
		"0.0": aFloat(0, 1), "0.5": aFloat(5, 1), "-0.5": aFloat(-5, 1), "-0.05": aFloat(-5, 2), "0.50": aFloat(50, 2), "1.0": aFloat(10, 1), "-1.0": aFloat(-10, 1), "12.345": aFloat(12345, 3), "-12.345": aFloat(-12345, 3), "10.00": aFloat(1000, 2),
		"0.00000000000000": aFloat(0, 14), "0.00000000000001": aFloat(1, 14), "-0.00000000000001": aFloat(-1, 14), "9.99999999999999": aFloat(999999999999999, 14), "-9.99999999999999": aFloat(-999999999999999, 14), "99999999999999.9": aFloat(999999999999999, 1), "0.1": aFloat(1, 1), "0.10000000000000": aFloat(1e13, 14),
		"nan": nan, "inf": infinite(1), "-inf": infinite(-1), "true": yes, "false": no,
	}
	for _, name := range fieldNames() {
		l[name] = inField(name)
	}
	for want, x := range l {
		checkPrint(t, steps(x, has), "has("+want+")", api.OK)
		checkPrint(t, steps(x, inField("kind"), eq), "("+want+" == kind)", api.OK)
		checkPrint(t, steps(inField("kind"), x, ne), "(kind != "+want+")", api.OK)
	}
	long := strings.Repeat("\\", api.MaxText)
	checkPrint(t, steps(aText(long), has), `has("`+long+long+`")`, api.OK)
}

// TestP151PrintGreat has as many steps as may be, deep and long.
func TestP151PrintGreat(t *testing.T) {
	checkPrint(t, append(steps(yes), slices.Repeat(steps(not), api.MaxPred-1)...), strings.Repeat("(not ", api.MaxPred-1)+"true"+strings.Repeat(")", api.MaxPred-1), api.OK)
	long := strings.Repeat("x", api.MaxText)
	one := `("` + long + `" == "` + long + `")`
	l, want := steps(aText(long), aText(long), eq), one
	for range 63 {
		l = append(l, aText(long), aText(long), eq, or)
		want = "(" + want + " or " + one + ")"
	}
	checkPrint(t, l, want, api.OK)
	checkPrint(t, append(slices.Repeat(steps(yes), 128), slices.Repeat(steps(and), 127)...), strings.Repeat("(true and ", 127)+"true"+strings.Repeat(")", 127), api.OK)
}

func TestP151PrintRefused(t *testing.T) {
	for _, l := range wrongSteps() {
		checkPrint(t, l, "", api.ErrConf)
	}
}

func TestP151PrintTrees(t *testing.T) {
	r := rand.New(rand.NewPCG(15, 3))
	for range 5000 {
		x := someTruth(r, r.IntN(6))
		checkPrint(t, x.steps(), x.printed(), api.OK)
	}
}

func TestP154ThereAndBack(t *testing.T) {
	r := rand.New(rand.NewPCG(15, 4))
	had := map[api.Errno]int{}
	for range 10000 {
		l := someTruth(r, r.IntN(7)).steps()
		s, why := filter.Print(l)
		if why != api.OK {
			t.Fatalf("Print of %s: error %d", brief(l), why)
		}
		tokens, _ := tokensOf(s)
		want := api.OK
		if len(s) > api.MaxText {
			l, want = nil, api.ErrLong
		} else if around(tokens) > api.MaxDepth {
			l, want = nil, api.ErrConf
		}
		had[want]++
		checkParse(t, s, l, want)
	}
	if had[api.OK] < 5000 || had[api.ErrConf] < 50 {
		t.Errorf("errors %v", had)
	}
}

// TestP154Texts has what is read of a text, written and read once more.
func TestP154Texts(t *testing.T) {
	for s, l := range predicates() {
		printed, why := filter.Print(l)
		if why != api.OK {
			t.Errorf("Print of %s: error %d", s, why)
		}
		checkParse(t, printed, l, api.OK)
	}
	deep := steps(yes) // eight brackets around the first operand
	for range api.MaxDepth {
		deep = append(deep, no, or)
	}
	s, _ := filter.Print(deep)
	checkParse(t, s, deep, api.OK)
	s, _ = filter.Print(append(deep, no, or))
	checkParse(t, s, nil, api.ErrConf)
}
