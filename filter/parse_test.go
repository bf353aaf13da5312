package filter_test

import (
	"math/rand/v2"
	"slices"
	"strconv"
	"strings"
	"testing"

	"penstock/api"
	"penstock/filter"
)

// predicates have texts, several the same steps.
func predicates() map[string][]api.PredStep {
	name, code := inField("name"), inField("code")
	get := steps(name, aText("GET"), eq)
	return map[string][]api.PredStep{
		`name == "GET" and attr["n"] >= 500`: steps(name, aText("GET"), eq, ofItem("n"), anInt(500), op(api.PredLeast), and),
		"true":                               steps(yes),
		"false":                              steps(no),
		" true ":                             steps(yes),
		"     false     ":                    steps(no),
		"(true)":                             steps(yes),
		"((true))":                           steps(yes),
		" ( ( true ) ) ":                     steps(yes),
		"not true":                           steps(yes, not),
		"not    true":                        steps(yes, not),
		"not(true)":                          steps(yes, not),
		"(not true)":                         steps(yes, not),
		"not not not false":                  steps(no, not, not, not),
		"not(not(not false))":                steps(no, not, not, not),
		"true and false":                     steps(yes, no, and),
		"true and false and true":            steps(yes, no, and, yes, and),
		"(true and false) and true":          steps(yes, no, and, yes, and),
		"true and (false and true)":          steps(yes, no, yes, and, and),
		"true or false or true":              steps(yes, no, or, yes, or),
		"true or (false or true)":            steps(yes, no, yes, or, or),
		"true or false and true":             steps(yes, no, yes, and, or),
		"true and false or true":             steps(yes, no, and, yes, or),
		"(true or false) and true":           steps(yes, no, or, yes, and),
		"true and (false or true)":           steps(yes, no, yes, or, and),
		"true and true or false and false":   steps(yes, yes, and, no, no, and, or),
		"true or true and false or false":    steps(yes, yes, no, and, or, no, or),
		"not true and false":                 steps(yes, not, no, and),
		"not (true and false)":               steps(yes, no, and, not),
		"true and not false":                 steps(yes, no, not, and),
		"true or not not false and true":     steps(yes, no, not, not, yes, and, or),
		"(true)and(false)or(true)":           steps(yes, no, and, yes, or),
		"not(true)and not(false)":            steps(yes, not, no, not, and),
		`not name == "GET"`:                  append(get, not),
		`not(name=="GET")`:                   append(get, not),
		`name=="GET"`:                        get,
		`  name  ==  "GET"  `:                get,
		`(name == "GET")`:                    get,
		`"GET" == name`:                      steps(aText("GET"), name, eq),
		"code==1":                            steps(code, anInt(1), eq),
		"1==code":                            steps(anInt(1), code, eq),
		"code!=-1":                           steps(code, anInt(-1), ne),
		"code<-1":                            steps(code, anInt(-1), op(api.PredLess)),
		"code<=-1":                           steps(code, anInt(-1), op(api.PredMost)),
		"code>1":                             steps(code, anInt(1), op(api.PredMore)),
		"code>=1":                            steps(code, anInt(1), op(api.PredLeast)),
		"code<1and code>=0or 1==code":        steps(code, anInt(1), op(api.PredLess), code, anInt(0), op(api.PredLeast), and, anInt(1), code, eq, or),
		`name=="a"and"b"==name`:              steps(name, aText("a"), eq, aText("b"), name, eq, and),
		"true and1==code":                    steps(yes, anInt(1), code, eq, and),
		"not-1.5==code":                      steps(aFloat(-15, 1), code, eq, not),
		"true == true":                       steps(yes, yes, eq),
		"true==false and false":              steps(yes, no, eq, no, and),
		"not true == false":                  steps(yes, no, eq, not),
		"false != name":                      steps(no, name, ne),
		"name != false or true":              steps(name, no, ne, yes, or),
		"has(name)":                          steps(name, has),
		"has ( name )":                       steps(name, has),
		"  has(  name  )  ":                  steps(name, has),
		"(has(name))":                        steps(name, has),
		"not has(name)":                      steps(name, has, not),
		"has(true)":                          steps(yes, has),
		"has(false)and has(1)":               steps(no, has, anInt(1), has, and),
		`has("x")`:                           steps(aText("x"), has),
		"has(nan)":                           steps(nan, has),
		"has(-inf)":                          steps(infinite(-1), has),
		`has(attr["k"])`:                     steps(ofItem("k"), has),
		`has(resource["k"])`:                 steps(ofResource("k"), has),
		`has ( attr [ "k" ] )`:               steps(ofItem("k"), has),
		`has(resource  [  "k"  ]  )`:         steps(ofResource("k"), has),
		`attr["a"]==resource["a"]`:           steps(ofItem("a"), ofResource("a"), eq),
		`attr[""] < resource[" "]`:           steps(ofItem(""), ofResource(" "), op(api.PredLess)),
		"nan != nan":                         steps(nan, nan, ne),
		"inf>-inf":                           steps(infinite(1), infinite(-1), op(api.PredMore)),
		"-inf <= inf and-inf<inf":            steps(infinite(-1), infinite(1), op(api.PredMost), infinite(-1), infinite(1), op(api.PredLess), and),
		"trace != span":                      steps(inField("trace"), inField("span"), ne),
	}
}

func TestP151Parse(t *testing.T) {
	for s, want := range predicates() {
		checkParse(t, s, want, api.OK)
		checkParse(t, "  "+s+"  ", want, api.OK)
		checkParse(t, "("+s+")", want, api.OK)
		checkParse(t, "not ( "+s+" ) and "+"(true)", append(slices.Clone(want), not, yes, and), api.OK)
		checkParse(t, "(false)or("+s+")", append(append(steps(no), want...), or), api.OK)
	}
}

func TestP151ParseOperands(t *testing.T) {
	l := map[string]api.PredStep{
		`""`: aText(""), `"x"`: aText("x"), `"x y"`: aText("x y"), `" "`: aText(" "), `"\""`: aText(`"`), `"\\"`: aText(`\`), `"\\\""`: aText(`\"`), `"\\\\"`: aText(`\\`), `"\"x\"y"`: aText(`"x"y`), `"\\n"`: aText(`\n`),
		`"true"`: aText("true"), `" and "`: aText(" and "), `"("`: aText("("), `")"`: aText(")"), `"1"`: aText("1"), "\"\n\t\x00\x7f\"": aText("\n\t\x00\x7f"), "\"\xff\xc3\"": aText("\xff\xc3"), `"é"`: aText("é"), `"'"`: aText("'"),
		`attr["k"]`: ofItem("k"), `attr["\"\\"]`: ofItem(`"\`), "attr[\"\xff\"]": ofItem("\xff"), `attr["]"]`: ofItem("]"), `attr["name"]`: ofItem("name"), `attr["attr[\"x\"]"]`: ofItem(`attr["x"]`), `attr[ "k"]`: ofItem("k"), `attr["k" ]`: ofItem("k"),
		`resource["k"]`: ofResource("k"), `resource[""]`: ofResource(""), `resource["\\"]`: ofResource(`\`), `resource [ "k" ]`: ofResource("k"),
		"0": anInt(0), "1": anInt(1), "-1": anInt(-1), "10": anInt(10), "-10": anInt(-10), "9": anInt(9), "123456789": anInt(123456789), "999999999999999": anInt(999999999999999), "-999999999999999": anInt(-999999999999999), "100000000000000": anInt(1e14), "-0": anInt(0),
		"0.0": aFloat(0, 1), "0.5": aFloat(5, 1), "-0.5": aFloat(-5, 1), "1.0": aFloat(10, 1), "1.50": aFloat(150, 2), "10.01": aFloat(1001, 2), "-10.010": aFloat(-10010, 3), "0.05": aFloat(5, 2), "0.00": aFloat(0, 2), "-0.00": aFloat(0, 2),
		"0.00000000000000": aFloat(0, 14), "0.00000000000001": aFloat(1, 14), "9.99999999999999": aFloat(999999999999999, 14), "-9.99999999999999": aFloat(-999999999999999, 14), "99999999999999.9": aFloat(999999999999999, 1), "12345678.1234567": aFloat(123456781234567, 7), "100000.000000000": aFloat(1e14, 9),
		"nan": nan, "inf": infinite(1), "-inf": infinite(-1), "true": yes, "false": no,
	}
	for _, name := range fieldNames() {
		l[name] = inField(name)
	}
	for s, x := range l {
		checkParse(t, "has("+s+")", steps(x, has), api.OK)
		checkParse(t, "has( "+s+" )", steps(x, has), api.OK)
		for k, word := range sixWords() {
			k := api.PredEqual + api.PredKind(k)
			checkParse(t, s+word+"kind", steps(x, inField("kind"), op(k)), api.OK)
			checkParse(t, "kind "+word+" "+s, steps(inField("kind"), x, op(k)), api.OK)
			checkParse(t, s+word+s, steps(x, x, op(k)), api.OK)
			checkParse(t, "not ("+s+"  "+word+"  "+s+")", steps(x, x, op(k), not), api.OK)
		}
	}
}

// noOperands are no texts of operands.
func noOperands() []string {
	l := []string{
		"", "x", "names", "Name", "NAME", "nam", "nameX", "name5", "name.x", "name[\"x\"]", "true5", "True", "TRUE", "Nan", "NaN", "NAN", "Inf", "INF", "infinity", "+inf", "-nan", "- inf", "--inf", "-Inf", "-infx", "-true", "-name", "null", "nil", "none",
		`"`, `"x`, `x"`, `"\"`, `"\`, `"\x"`, `"\n"`, `"\t"`, `"\'"`, `"\u0041"`, `"\ "`, `"\0"`, `'x'`, "`x`", `"x""y"`, `"x" "y"`, `"\N"`, "\"\\\xff\"",
		"attr", "attr[]", "attr[", "attr]", `attr"k"`, `attr["k"`, `attr["k]`, `attr[k]`, `attr[1]`, `attr[name]`, `attr[true]`, `attr["k"]]`, `attr[["k"]]`, `attr["k","l"]`, `attr["k" "l"]`, `attr("k")`, `attr.k`, `attrs["k"]`, `Attr["k"]`, `att["k"]`, `attr["\k"]`, `["k"]`, `attr[attr["k"]]`,
		"resource", "resource[]", `resource["k"`, `resource[k]`, `Resource["k"]`, `resources["k"]`, `res["k"]`,
		"00", "01", "007", "-00", "-01", "00.5", "01.5", "-00.5", "--1", "- 1", "+1", "+0", "-", "1-", "1 2", "1,5", "1_0", "1e3", "0x1", "1a", "a1", ".5", "-.5", "1.", "-1.", "0.", ".", "-.", "1..5", "1.5.5", "1. 5", "1 .5", "1.-5", "1.5-", "1.a", "١",
		"1000000000000000", "-1000000000000000", "9999999999999999", "0.000000000000000", "0.000000000000001", "1.000000000000000", "-1.000000000000000", "999999999999999.9", "1234567890123456", "10000000000000.00", "18446744073709551616", "18446744073709551617", strings.Repeat("9", 100), strings.Repeat("0", 100), "0." + strings.Repeat("0", 100), "1" + strings.Repeat("0", 300) + ".5",
		"(name)", "(1)", `("x")`, "has(", "and", "or", "not", "has", "==", "()", "[]", ",", ";", "é", "\xff", "\x00", "a b", "name unit", "name true", "nan nan", "has()", "=", "!",
	}
	return l
}

func TestP151ParseNoOperands(t *testing.T) {
	for _, s := range noOperands() {
		checkParse(t, "has("+s+")", nil, api.ErrConf)
		checkParse(t, s, nil, api.ErrConf)
		checkParse(t, "true and "+s, nil, api.ErrConf)
		for _, word := range sixWords() {
			checkParse(t, "kind "+word+" "+s, nil, api.ErrConf)
			checkParse(t, s+" "+word+" kind", nil, api.ErrConf)
			checkParse(t, "("+s+") "+word+" kind", nil, api.ErrConf)
		}
	}
	for _, s := range []string{"(true)", "(name == unit)", "has(name)", "not true", "true and false", "name == unit"} { // what is a truth is no operand
		checkParse(t, "has("+s+")", nil, api.ErrConf)
		checkParse(t, "("+s+") == kind", nil, api.ErrConf)
		checkParse(t, "kind == ("+s+")", nil, api.ErrConf)
		checkParse(t, "("+s+") == ("+s+")", nil, api.ErrConf)
	}
}

func TestP151ParseNone(t *testing.T) {
	for _, s := range []string{
		"", " ", "     ", "()", "( )", "(", ")", "((true)", "(true))", "(true", "true)", ")true(", "(true)(false)", "(true) false", "true true", "true false", "true (false)",
		"and", "or", "not", "true and", "and true", "true or", "or true", "true and and false", "true or or false", "true and or false", "true or and false", "not and true", "true not", "true not false", "not", "not not", "true and not", "(and)", "(not)", "not ()", "true and ()", "() or true",
		"name", "(name)", "1", "nan", "\"x\"", "attr[\"k\"]", "name and true", "true and name", "not name", "name or unit", "name unit", "name == ", "== name", "==", "name ==", "name == == unit", "name == unit == kind", "name < kind < unit", "name = unit", "name === unit", "name =! unit", "name ! = unit", "name = = unit", "name < = unit", "name > = unit", "name =< unit", "name => unit", "name <> unit", "name >< unit", "name << unit", "name !unit", "!true", "! true", "name <== unit", "name !== unit", "name == != unit", "name & unit", "true && true", "true || true", "true & true", "true, true", "name ~ unit",
		"truefalse", "trueand true", "true andtrue", "trueandtrue", "true ortrue", "trueor true", "nottrue", "notname == unit", "not truE", "True", "TRUE", "true AND true", "true And true", "true OR false", "NOT true", "Not true", "HAS(name)", "Has(name)", "true and nottrue", "nothas(name)", "true andhas(name)", "true andnot true", "name == truefalse", "nameunit == kind", "name == unitand true", "nan == infor true", "nan == nanand true", "true and-infinity == nan", "-infand == nan", "inf == -infand true", "andtrue",
		"has", "has name", "has()", "has( )", "has(name", "has name)", "has(name))", "has((name))", "has(name, unit)", "has(name unit)", "has(not true)", "has[name]", "hasname", "has\"name\"", "has(name) has(unit)", "has has(name)", "has(has(name))", "has(true and true)", "has(name == unit)", "true has(name)",
		"\ttrue", "true\n", "true\tand true", "\u00a0true", "true\x00", "\xfftrue", "true\xff", "true #", "true;", "true.", "true,", "name\t== unit", "name ==\nunit", "true and\ttrue", "not\ttrue",
		"name == \"GET", "name == GET\"", "name == \"GE\\T\"", "name == \"GET\\\"", "name == \"GET\"\"", "name == 'GET'", "name[\"k\"] == 1", "attr[\"k\"", "attr == 1", "has(attr)", "has(attr k)", "resource == attr",
	} {
		checkParse(t, s, nil, api.ErrConf)
		checkParse(t, "  "+s+"  ", nil, api.ErrConf)
		checkParse(t, "("+s+")", nil, api.ErrConf)
		checkParse(t, "not ("+s+")", nil, api.ErrConf)
		checkParse(t, "true or ("+s+")", nil, api.ErrConf)
	}
}

// TestP151ParseLong has texts of MaxText bytes, and one more.
func TestP151ParseLong(t *testing.T) {
	x := strings.Repeat("x", api.MaxText)
	for ahead, want := range map[string][]api.PredStep{"name==": steps(inField("name"), aText("?"), eq), "has(": steps(aText("?"), has), "not true and true == ": steps(yes, not, yes, aText("?"), eq, and)} {
		behind := strings.Repeat(")", strings.Count(ahead, "("))
		fits := x[:api.MaxText-len(ahead+behind)-2]
		most := ahead + quoted(fits) + behind
		for i := range want {
			if want[i].Text == "?" {
				want[i].Text = fits
			}
		}
		checkParse(t, most, want, api.OK)
		checkParse(t, most+" ", nil, api.ErrLong)
		checkParse(t, " "+most, nil, api.ErrLong)
		checkParse(t, ahead+quoted(fits+"x")+behind, nil, api.ErrLong)
		checkParse(t, most[:len(most)-1], nil, api.ErrConf)
		checkParse(t, most[:len(most)-1]+"\xff\xff", nil, api.ErrLong)
	}
	blanks := strings.Repeat(" ", api.MaxText)
	checkParse(t, blanks, nil, api.ErrConf)
	checkParse(t, blanks+" ", nil, api.ErrLong)
	checkParse(t, blanks[:api.MaxText-4]+"true", steps(yes), api.OK)
	checkParse(t, "true"+blanks[:api.MaxText-4], steps(yes), api.OK)
	checkParse(t, "true"+blanks[:api.MaxText-3], nil, api.ErrLong)
	checkParse(t, strings.Repeat("x", 1<<20), nil, api.ErrLong)
}

// wrapped has so many brackets and nots around what is handed in, as s says: "(n((".
func wrapped(around, s string) string {
	for _, c := range slices.Backward([]byte(around)) {
		if c == 'n' {
			s = "not " + s
		} else {
			s = "(" + s + ")"
		}
	}
	return s
}

// TestP151ParseDeep has MaxDepth brackets and nots around something, and one more.
func TestP151ParseDeep(t *testing.T) {
	for _, inside := range []string{"true", "name == unit", "has(name)", `has(attr["k"])`, `attr["a"] == resource["b"]`, "true and false or true", `"(((((((((" == name`} {
		plain, _ := modelParse(inside)
		for _, s := range []string{"((((((((", "nnnnnnnn", "n(n(n(n(", "(n(n(n(n", "nnnn((((", "((((nnnn", "(nnnnnn(", "n((((((n"} {
			want := slices.Clone(plain)
			most := wrapped(s, "("+inside+")")
			want = append(want, slices.Repeat(steps(not), strings.Count(s, "n"))...)
			checkParse(t, most, nil, api.ErrConf)
			checkParse(t, wrapped(s[1:], "("+inside+")"), want[:len(want)-1+strings.Count(s[:1], "(")], api.OK)
			checkParse(t, "true and "+wrapped(s[1:], "("+inside+")"), both(steps(yes), want[:len(want)-1+strings.Count(s[:1], "(")], api.PredAnd), api.OK)
			checkParse(t, "true or "+most, nil, api.ErrConf)
			checkParse(t, most+" and true", nil, api.ErrConf)
			checkParse(t, "not "+most, nil, api.ErrConf)
		}
	}
	eight := strings.Repeat("not ", 8) + "true"
	checkParse(t, eight+" and "+eight, both(append(steps(yes), slices.Repeat(steps(not), 8)...), append(steps(yes), slices.Repeat(steps(not), 8)...), api.PredAnd), api.OK)
	checkParse(t, "("+eight+") or true", nil, api.ErrConf)
	checkParse(t, "(((((((true)))))) and ((((((not true)))))))", steps(yes, yes, not, and), api.OK)
	checkParse(t, "(((((((true)))))) and (((((((not true))))))))", nil, api.ErrConf)
	checkParse(t, strings.Repeat("(", 8)+"has(name)"+strings.Repeat(")", 8), steps(inField("name"), has), api.OK)
	for _, s := range []string{"(", "not "} {
		checkParse(t, strings.Repeat(s, api.MaxText/len(s)), nil, api.ErrConf)
		checkParse(t, strings.Repeat(s, 800)+"true"+strings.Repeat(")", 800), nil, api.ErrConf)
	}
	checkParse(t, strings.Repeat("(", 1000)+"true"+strings.Repeat(")", 1000), nil, api.ErrConf)
}

// TestP151ParseMany has MaxPred steps, and more.
func TestP151ParseMany(t *testing.T) {
	row := func(n int, word string) string { return strings.Repeat("true "+word+" ", n-1) + "true" }
	rowSteps := func(n int, k api.PredStep) []api.PredStep {
		return append(steps(yes), slices.Repeat(steps(yes, k), n-1)...)
	}
	for word, k := range map[string]api.PredStep{"and": and, "or": or} {
		checkParse(t, row(127, word), rowSteps(127, k), api.OK)
		checkParse(t, row(128, word), rowSteps(128, k), api.OK)
		checkParse(t, "not ("+row(128, word)+")", append(rowSteps(128, k), not), api.OK)
		checkParse(t, row(129, word), nil, api.ErrMany)
		checkParse(t, "not not ("+row(128, word)+")", nil, api.ErrMany)
		checkParse(t, row(128, word)+" "+word+" not true", nil, api.ErrMany)
		checkParse(t, row(300, word), nil, api.ErrMany)
		checkParse(t, row(450, word), nil, api.ErrMany)
	}
	checkParse(t, row(126, "and")+" and name == 1", append(rowSteps(126, and), inField("name"), anInt(1), eq, and), api.OK)
	checkParse(t, row(127, "and")+" and name == 1", nil, api.ErrMany)
	checkParse(t, row(126, "and")+" and not name == 1", append(rowSteps(126, and), inField("name"), anInt(1), eq, not, and), api.OK)
	checkParse(t, row(126, "and")+" and not not name == 1", nil, api.ErrMany)
	checkParse(t, row(127, "or")+" or has(1)", append(rowSteps(127, or), anInt(1), has, or), api.OK)
	checkParse(t, row(128, "or")+" or has(1)", nil, api.ErrMany)
}

// TestP151ParseOrder has several faults at once: what is too long, then what is none, then what has too many steps.
func TestP151ParseOrder(t *testing.T) {
	many := strings.Repeat("true and ", 200)
	deep := strings.Repeat("(", 9) + "true" + strings.Repeat(")", 9)
	blanks := strings.Repeat(" ", api.MaxText)
	checkParse(t, many+"true", nil, api.ErrMany)
	checkParse(t, many+deep, nil, api.ErrConf)
	checkParse(t, deep+" and "+many+"true", nil, api.ErrConf)
	for _, s := range []string{"", "true and", "name", "x", "(true", "true)", "True", "truefalse", "not", `"`} {
		checkParse(t, many+s, nil, api.ErrConf)
		checkParse(t, many+s+blanks, nil, api.ErrLong)
	}
	checkParse(t, many+"true"+blanks, nil, api.ErrLong)
	checkParse(t, deep+blanks, nil, api.ErrLong)
	checkParse(t, many+deep+blanks, nil, api.ErrLong)
	checkParse(t, (many + "true" + blanks)[:api.MaxText], nil, api.ErrMany)
}

// TestP151ParseTrees has the texts of any trees, with brackets and blanks as they may stand.
func TestP151ParseTrees(t *testing.T) {
	r := rand.New(rand.NewPCG(15, 1))
	had := map[api.Errno]int{}
	for i := range 20000 {
		x := someTruth(r, r.IntN(6))
		tokens := x.tokens(r, anOr, []int{0, 10, 40}[i%3])
		s := joined(r, tokens, []int{0, 1, 3}[i/3%3])
		want, why := x.steps(), api.OK
		switch {
		case len(s) > api.MaxText:
			want, why = nil, api.ErrLong
		case around(tokens) > api.MaxDepth:
			want, why = nil, api.ErrConf
		case len(want) > api.MaxPred:
			want, why = nil, api.ErrMany
		}
		had[why]++
		checkParse(t, s, want, why)
		if l, whyModel := modelParse(s); whyModel != why || !same(l, want) {
			t.Fatalf("the model says %d of %s", whyModel, s)
		}
	}
	if had[api.OK] < 10000 || had[api.ErrConf] < 100 {
		t.Errorf("errors %v", had)
	}
}

// TestP151ParseNearly has what is a text nearly, held against the model.
func TestP151ParseNearly(t *testing.T) {
	r := rand.New(rand.NewPCG(15, 2))
	had := map[api.Errno]int{}
	pieces := []string{"", " ", "(", ")", "[", "]", `"`, `\`, "and", "or", "not", "true", "has", "=", "!", "<", ">", "-", ".", "0", "1", "inf", "nan", "name", "attr", "e", "N", "\xff", " and ", " or ", "not ", "(true)", " == "}
	for range 60000 {
		s := joined(r, someTruth(r, r.IntN(3)).tokens(r, anOr, 10), 1)
		for range 1 + r.IntN(2) {
			at := r.IntN(len(s) + 1)
			s = s[:at] + pick(r, pieces...) + s[min(len(s), at+r.IntN(3)):]
		}
		want, why := modelParse(s)
		had[why]++
		checkParse(t, s, want, why)
	}
	for range 60000 { // any pieces
		s := ""
		for range 1 + r.IntN(7) {
			s += pick(r, pieces...)
		}
		want, why := modelParse(s)
		had[why]++
		checkParse(t, s, want, why)
	}
	if had[api.OK] < 2000 || had[api.ErrConf] < 50000 {
		t.Errorf("errors %v", had)
	}
}

// TestP151ParseIsRight tells that what is read is right.
func TestP151ParseIsRight(t *testing.T) {
	for s := range predicates() {
		l, _ := filter.Parse(s)
		if why := filter.Check(l); why != api.OK {
			t.Errorf("Check of %s: error %d", strconv.Quote(s), why)
		}
	}
}
