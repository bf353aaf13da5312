package filter_test

import (
	"math/rand/v2"
	"slices"
	"strings"
	"testing"

	"penstock/api"
	"penstock/filter"
)

// beyond are steps that are none.
func beyond() map[string]api.PredStep {
	long := strings.Repeat("x", api.MaxText+1)
	l := map[string]api.PredStep{
		"no kind":          {},
		"no kind, a text":  {Text: "name"},
		"a kind beyond":    {Kind: api.PredCount},
		"the kind behind":  {Kind: api.PredCount + 1},
		"the greatest":     {Kind: 255},
		"no field":         inField("x"),
		"no field's name":  inField(""),
		"upper case":       inField("Name"),
		"a field and more": inField("name "),
		"two fields":       inField("name unit"),
		"attr as a field":  inField("attr"),
		"a word as field":  inField("true"),
		"a long field":     inField(long),
		"a long key":       ofItem(long),
		"a long key, too":  ofResource(long),
		"a long text":      aText(long),
		"a great int":      anInt(1e15),
		"the greatest int": anInt(1<<63 - 1),
		"a low int":        anInt(-1e15),
		"the lowest int":   anInt(-1 << 63),
		"a great float":    aFloat(1e15, 1),
		"a great one, too": aFloat(1<<63-1, 14),
		"a low float":      aFloat(-1e15, 14),
		"the lowest float": aFloat(-1<<63, 1),
		"no places":        aFloat(15, 0),
		"places below":     aFloat(15, -1),
		"places beyond":    aFloat(15, 15),
		"very many places": aFloat(15, 1<<62),
		"very few places":  aFloat(15, -1<<63),
		"no infinity":      infinite(0),
		"a great infinity": infinite(2),
		"a low infinity":   infinite(-2),
		"the lowest, too":  infinite(-1 << 63),
	}
	for k := api.PredField; k < api.PredCount; k++ {
		x := rightOne(k)
		for what, change := range map[string]func(*api.PredStep){"text": func(x *api.PredStep) { x.Text = "name" }, "number": func(x *api.PredStep) { x.N = 1 }, "places": func(x *api.PredStep) { x.Places = 1 }} {
			y := x
			change(&y)
			if x.Text != "" && what == "text" || (k == api.PredInt || k == api.PredFloat || k == api.PredInf) && what == "number" || k == api.PredFloat && what == "places" {
				continue
			}
			l["a "+what+" of "+string('A'+rune(k))] = y
		}
	}
	return l
}

// rightOne is a step of the kind.
func rightOne(k api.PredKind) api.PredStep {
	switch k {
	case api.PredField:
		return inField("name")
	case api.PredAttr, api.PredResource, api.PredText:
		return said(k, "k")
	case api.PredFloat:
		return aFloat(15, 1)
	case api.PredInf:
		return infinite(1)
	}
	return op(k)
}

// among puts the step to places where one of its kind may be, or where any may.
func among(x api.PredStep) [][]api.PredStep {
	return [][]api.PredStep{steps(x), steps(x, has), steps(x, yes, eq), steps(yes, x, eq), steps(yes, x), steps(yes, x, not), steps(yes, no, x), steps(x, x), steps(yes, not, x), steps(x, not), steps(x, yes, and), steps(x, x, eq)}
}

// wrongSteps are such that leave no truth, or have a step that is none.
func wrongSteps() [][]api.PredStep {
	var l [][]api.PredStep
	for _, x := range beyond() {
		l = append(l, among(x)...)
	}
	name, one := inField("name"), anInt(1)
	for k := api.PredEqual; k <= api.PredLeast; k++ {
		six := op(k)
		l = append(l, steps(six), steps(name, six), steps(yes, six), steps(name, one, six, one, six), steps(one, name, one, six, six), steps(yes, not, one, six), steps(one, yes, not, six), steps(name, has, one, six), steps(one, name, has, six), steps(yes, no, and, yes, six), steps(yes, no, yes, or, six), steps(name, one, six, six), steps(name, one, six, has), steps(name, one, one, six), steps(name, name, one, six), steps(name, one, six, name), steps(name, one, six, yes), steps(name, name, one, six, and), steps(name, one, six, name, or), steps(name, one, six, name, one, six))
	}
	for _, x := range []api.PredStep{name, one, ofItem("k"), ofResource("k"), aText("x"), aFloat(1, 1), nan, infinite(1)} {
		l = append(l, steps(x), steps(x, x), steps(x, not), steps(x, yes, and), steps(yes, x, and), steps(x, no, or), steps(no, x, or), steps(x, has, x), steps(x, x, has), steps(x, has, x, and), steps(x, x, has, or), steps(x, has, has), steps(x, not, has), steps(x, yes), steps(yes, x), steps(x, x, eq, x, has), steps(x, x, x, eq))
	}
	for _, x := range []api.PredStep{has, eq, ne, op(api.PredLess), op(api.PredMost), op(api.PredMore), op(api.PredLeast), not, and, or} {
		l = append(l, steps(x), steps(x, yes), steps(x, x), steps(x, yes, no), steps(yes, not, has), steps(x, yes, has))
	}
	l = append(l, nil, steps(), steps(yes, and), steps(yes, or), steps(and, yes, yes), steps(yes, yes), steps(yes, no, yes), steps(yes, no, and, and), steps(yes, no, yes, and), steps(yes, no, and, yes), steps(yes, not, no), steps(no, yes, not), steps(yes, has, has), steps(yes, not, has), steps(yes, no, and, has), steps(yes, no, eq, has), steps(yes, no, eq, no, eq), steps(yes, yes, no, eq, eq), steps(yes, not, yes, eq), steps(yes, yes, not, eq), steps(no, no, not, and, has))
	l = append(l, append(steps(yes), slices.Repeat(steps(not), api.MaxPred)...), slices.Repeat(steps(yes), api.MaxPred), slices.Repeat(steps(not), api.MaxPred), append(steps(yes), slices.Repeat(steps(yes, and), 128)...), slices.Repeat(steps(yes), 1<<12))
	return l
}

func TestP151Check(t *testing.T) {
	long := strings.Repeat("\xff", api.MaxText)
	right := [][]api.PredStep{
		steps(yes), steps(no), steps(yes, not), steps(no, not, not), steps(yes, no, and), steps(yes, no, or), steps(yes, no, yes, and, or), steps(yes, not, no, not, and),
		steps(yes, has), steps(no, has, not), steps(yes, no, eq), steps(yes, no, eq, yes, and), steps(yes, yes, no, ne, or), steps(yes, yes, eq, not), steps(yes, yes, yes, eq, and), steps(yes, yes, has, and), steps(yes, inField("name"), yes, eq, and), steps(yes, inField("name"), eq),
		append(steps(yes), slices.Repeat(steps(not), api.MaxPred-1)...), append(slices.Repeat(steps(yes), 128), slices.Repeat(steps(and), 127)...), append(append(steps(yes), slices.Repeat(steps(no, or), 127)...), not),
	}
	var operands []api.PredStep
	for _, name := range fieldNames() {
		operands = append(operands, inField(name))
	}
	for _, s := range []string{"", "x", long, "name", "\x00"} {
		operands = append(operands, ofItem(s), ofResource(s), aText(s))
	}
	for _, n := range []int64{0, 1, -1, 1e14, 999999999999999, -999999999999999} {
		operands = append(operands, anInt(n))
		for places := 1; places <= 14; places++ {
			operands = append(operands, aFloat(n, places))
		}
	}
	operands = append(operands, nan, infinite(1), infinite(-1), yes, no)
	for _, x := range operands {
		right = append(right, steps(x, has), steps(x, has, not), steps(inField("name"), x, eq), steps(yes, x, has, and), steps(x, has, yes, or))
		for k := api.PredEqual; k <= api.PredLeast; k++ {
			right = append(right, steps(x, x, op(k)), steps(x, yes, op(k)), steps(no, x, op(k)), steps(yes, x, x, op(k), and))
		}
	}
	for _, l := range right {
		if why := filter.Check(l); why != api.OK {
			t.Errorf("Check of %s: error %d", brief(l), why)
		}
	}
}

func TestP151CheckWrong(t *testing.T) {
	d := data(api.SignalLog, "a b")
	for _, l := range wrongSteps() {
		if why := filter.Check(l); why != api.ErrConf {
			t.Errorf("Check of %s: error %d", brief(l), why)
		}
		is, why := filter.Holds(l, d.Groups[0].Items[0], d.Groups[0].Resource)
		check(t, "Holds of "+brief(l), is, why, false, api.ErrConf)
		checkDrop(t, brief(l), d, l, api.Data{}, 0, api.ErrConf)
	}
	if n := len(wrongSteps()); n < 500 {
		t.Errorf("%d only", n)
	}
}

// TestP151CheckAll has all steps of four kinds of steps that there are, up to a length, held against the model.
func TestP151CheckAll(t *testing.T) {
	had := map[bool]int{}
	var all func(l []api.PredStep, most int)
	all = func(l []api.PredStep, most int) {
		want := api.ErrConf
		if modelCheck(l) {
			want = api.OK
		}
		had[want == api.OK]++
		if why := filter.Check(l); why != want {
			t.Errorf("Check of %s: error %d, want %d", brief(l), why, want)
		}
		if len(l) == most {
			return
		}
		for _, x := range []api.PredStep{yes, inField("name"), has, eq, not, and} {
			all(append(l, x), most)
		}
	}
	all(make([]api.PredStep, 0, 7), 6)
	if had[true] < 100 || had[false] < 30000 {
		t.Errorf("answers %v", had)
	}
}

// TestP151CheckModel has any steps, and such of trees that are spoiled.
func TestP151CheckModel(t *testing.T) {
	r := rand.New(rand.NewPCG(15, 5))
	had := map[api.Errno]int{}
	for range 30000 {
		l := someTruth(r, r.IntN(5)).steps()
		for range r.IntN(3) {
			l = spoiled(r, l)
		}
		want := api.ErrConf
		if modelCheck(l) {
			want = api.OK
		}
		had[want]++
		if why := filter.Check(l); why != want {
			t.Errorf("Check of %s: error %d, want %d", brief(l), why, want)
		}
	}
	if had[api.OK] < 5000 || had[api.ErrConf] < 5000 {
		t.Errorf("errors %v", had)
	}
}

// spoiled is l with a step changed, more or less; it may be right.
func spoiled(r *rand.Rand, l []api.PredStep) []api.PredStep {
	l = slices.Clone(l)
	if len(l) == 0 {
		return steps(someOperand(r).step)
	}
	at := r.IntN(len(l))
	x := &l[at]
	switch r.IntN(9) {
	case 0:
		x.Kind = api.PredKind(r.IntN(256))
	case 1:
		x.Kind = api.PredKind(r.IntN(int(api.PredCount) + 2))
	case 2:
		x.Text = pick(r, "", "name", "x")
	case 3:
		x.N = pick[int64](r, 0, 1, -1, 2, 1e15, -1e15, 1<<63-1, -1<<63)
	case 4:
		x.Places = pick(r, 0, 1, -1, 14, 15)
	case 5:
		*x = someOperand(r).step
	case 6:
		*x = op(api.PredKind(11 + r.IntN(10)))
	case 7:
		return slices.Delete(l, at, at+1)
	case 8:
		return slices.Insert(l, at, pick(r, someOperand(r).step, op(api.PredKind(9+r.IntN(12)))))
	}
	return l
}
