package filter_test

import (
	"math"
	"math/big"
	"math/rand/v2"
	"reflect"
	"regexp"
	"strconv"
	"strings"

	"penstock/api"
)

// tree is a step with those from which it takes. The model goes by trees, where the program has a stack.
type tree struct {
	step api.PredStep
	kids []tree
}

func (x tree) steps() []api.PredStep {
	var l []api.PredStep
	for _, k := range x.kids {
		l = append(l, k.steps()...)
	}
	return append(l, x.step)
}

func isConstant(k api.PredKind) bool { return k == api.PredTrue || k == api.PredFalse }
func isSix(k api.PredKind) bool      { return k >= api.PredEqual && k <= api.PredLeast }

// someTruth is a tree that is a truth, so deep at most.
func someTruth(r *rand.Rand, deep int) tree {
	kind := pick(r, api.PredNot, api.PredAnd, api.PredOr, api.PredAnd, api.PredOr)
	if deep <= 0 {
		kind = pick(r, api.PredTrue, api.PredFalse, api.PredHas, api.PredKind(12+r.IntN(6)), api.PredKind(12+r.IntN(6)))
	}
	x := tree{step: op(kind)}
	switch {
	case kind == api.PredNot:
		x.kids = []tree{someTruth(r, deep-1)}
	case kind == api.PredAnd || kind == api.PredOr:
		x.kids = []tree{someTruth(r, r.IntN(deep)), someTruth(r, r.IntN(deep))}
	case kind == api.PredHas:
		x.kids = []tree{someOperand(r)}
	case isSix(kind):
		x.kids = []tree{someOperand(r), someOperand(r)}
	}
	return x
}

func someOperand(r *rand.Rand) tree {
	n := r.Int64N(1e15)
	for range r.IntN(16) {
		n /= 10
	}
	n *= pick[int64](r, 1, -1)
	return tree{step: pick(r,
		inField(pick(r, fieldNames()...)), inField(pick(r, fieldNames()...)), ofItem(someKey(r)), ofItem(someKey(r)), ofResource(someKey(r)),
		aText(pick(r, "", "a", "ab", "b", `"`, `\`, `\"`, " ", "and", "\xff", "\n", "é", trace)), anInt(n), anInt(pick[int64](r, 0, 1, -1, 7)), aFloat(n, 1+r.IntN(14)), aFloat(pick[int64](r, 0, 15, -15, 10, 70), 1),
		nan, infinite(pick[int64](r, 1, -1)), yes, no)}
}

func someKey(r *rand.Rand) string { return pick(r, "a", "b", "c", "", `"`, "é", "\xff") }

// The texts of what stands for a tree.

func quoted(s string) string {
	return `"` + strings.NewReplacer(`\`, `\\`, `"`, `\"`).Replace(s) + `"`
}

func number(x api.PredStep) string {
	if x.Kind == api.PredInt {
		return strconv.FormatInt(x.N, 10)
	}
	unit := int64(1)
	for range x.Places {
		unit *= 10
	}
	return big.NewRat(x.N, unit).FloatString(x.Places)
}

// operandTokens are those of an operand's text.
func operandTokens(x api.PredStep) []string {
	switch x.Kind {
	case api.PredField:
		return []string{x.Text}
	case api.PredAttr:
		return []string{"attr", "[", quoted(x.Text), "]"}
	case api.PredResource:
		return []string{"resource", "[", quoted(x.Text), "]"}
	case api.PredText:
		return []string{quoted(x.Text)}
	case api.PredNaN:
		return []string{"nan"}
	case api.PredInf:
		return []string{map[int64]string{1: "inf", -1: "-inf"}[x.N]}
	case api.PredTrue:
		return []string{"true"}
	case api.PredFalse:
		return []string{"false"}
	}
	return []string{number(x)}
}

// How strongly what a tree's text is holds together.
const (
	anOr = iota
	anAnd
	aNot
	aPrimary
)

func strength(k api.PredKind) int {
	switch k {
	case api.PredOr:
		return anOr
	case api.PredAnd:
		return anAnd
	case api.PredNot:
		return aNot
	}
	return aPrimary
}

// tokens are those of the tree's text where something of that strength must stand; how many brackets more than are needed there are, is any.
func (x tree) tokens(r *rand.Rand, least, needless int) []string {
	k := x.step.Kind
	if r.IntN(100) < needless || strength(k) < least {
		return append(append([]string{"("}, x.tokens(r, anOr, needless)...), ")")
	}
	var l []string
	switch {
	case k == api.PredNot:
		return append([]string{"not"}, x.kids[0].tokens(r, aNot, needless)...)
	case k == api.PredAnd || k == api.PredOr:
		l = append(x.kids[0].tokens(r, strength(k), needless), map[api.PredKind]string{api.PredAnd: "and", api.PredOr: "or"}[k])
		return append(l, x.kids[1].tokens(r, strength(k)+1, needless)...)
	case k == api.PredHas:
		return append(append([]string{"has", "("}, operandTokens(x.kids[0].step)...), ")")
	case isSix(k):
		l = append(operandTokens(x.kids[0].step), sixWords()[k-api.PredEqual])
		return append(l, operandTokens(x.kids[1].step)...)
	}
	return operandTokens(x.step)
}

// around is how many brackets and nots are around something at most.
func around(tokens []string) int {
	most, now := 0, 0
	var opened []int // how many are around an open bracket, less than none for has
	for i, s := range tokens {
		switch s {
		case "not":
			now++
		case "(":
			if i > 0 && tokens[i-1] == "has" {
				opened = append(opened, -1)
				continue
			}
			opened = append(opened, now)
			now++
		case ")":
			if at := opened[len(opened)-1]; at >= 0 {
				now = at
			}
			opened = opened[:len(opened)-1]
		case "and", "or":
			now = 0
			if len(opened) > 0 {
				now = opened[len(opened)-1] + 1
			}
		}
		most = max(most, now)
	}
	return most
}

// joined has blanks between tokens, any or as few as may be.
func joined(r *rand.Rand, tokens []string, most int) string {
	isLetter := func(b byte) bool { return b >= 'a' && b <= 'z' }
	s := strings.Repeat(" ", r.IntN(most+1))
	for i, x := range tokens {
		if i > 0 && isLetter(x[0]) && isLetter(tokens[i-1][len(tokens[i-1])-1]) {
			s += " "
		}
		s += x + strings.Repeat(" ", r.IntN(most+1))
	}
	return s
}

// printed is the text that Print writes.
func (x tree) printed() string {
	k := x.step.Kind
	switch {
	case k == api.PredNot:
		return "(not " + x.kids[0].printed() + ")"
	case k == api.PredAnd:
		return "(" + x.kids[0].printed() + " and " + x.kids[1].printed() + ")"
	case k == api.PredOr:
		return "(" + x.kids[0].printed() + " or " + x.kids[1].printed() + ")"
	case k == api.PredHas:
		return "has(" + x.kids[0].printed() + ")"
	case isSix(k):
		return "(" + x.kids[0].printed() + " " + sixWords()[k-api.PredEqual] + " " + x.kids[1].printed() + ")"
	}
	return strings.Join(operandTokens(x.step), "")
}

// The model's reader: tokens by a pattern, then cut at what holds together least.

var tokenPattern = regexp.MustCompile(`(?s)^ *("(?:[^"\\]|\\["\\])*"|-?(?:0|[1-9][0-9]*)(?:\.[0-9]+)?|-?inf\b|[a-z]+|==|!=|<=|>=|<|>|[()\[\]])`)

func tokensOf(s string) ([]string, bool) {
	var l []string
	for strings.Trim(s, " ") != "" {
		m := tokenPattern.FindStringSubmatch(s)
		if m == nil {
			return nil, false
		}
		l = append(l, m[1])
		s = s[len(m[0]):]
	}
	return l, true
}

// modelParse is what Parse answers.
func modelParse(s string) ([]api.PredStep, api.Errno) {
	if len(s) > api.MaxText {
		return nil, api.ErrLong
	}
	tokens, is := tokensOf(s)
	if !is {
		return nil, api.ErrConf
	}
	l, is := readOr(tokens)
	if !is || around(tokens) > api.MaxDepth {
		return nil, api.ErrConf
	}
	if len(l) > api.MaxPred {
		return nil, api.ErrMany
	}
	return l, api.OK
}

// lastOf is where the last such token stands that is in no bracket, or below 0.
func lastOf(tokens []string, word string) int {
	at, open := -1, 0
	for i, s := range tokens {
		switch s {
		case "(":
			open++
		case ")":
			open--
		case word:
			if open == 0 {
				at = i
			}
		}
	}
	return at
}

func readOr(l []string) ([]api.PredStep, bool) {
	if at := lastOf(l, "or"); at >= 0 {
		a, isA := readOr(l[:at])
		b, isB := readAnd(l[at+1:])
		return both(a, b, api.PredOr), isA && isB
	}
	return readAnd(l)
}

func readAnd(l []string) ([]api.PredStep, bool) {
	if at := lastOf(l, "and"); at >= 0 {
		a, isA := readAnd(l[:at])
		b, isB := readNot(l[at+1:])
		return both(a, b, api.PredAnd), isA && isB
	}
	return readNot(l)
}

func readNot(l []string) ([]api.PredStep, bool) {
	if len(l) > 0 && l[0] == "not" {
		a, is := readNot(l[1:])
		return append(a, not), is
	}
	if n := len(l); n > 2 && l[0] == "(" && l[n-1] == ")" {
		return readOr(l[1 : n-1])
	}
	if n := len(l); n > 3 && l[0] == "has" && l[1] == "(" && l[n-1] == ")" {
		x, is := readOperand(l[2 : n-1])
		return steps(x, has), is
	}
	for i, s := range l {
		for k, word := range sixWords() {
			if s == word {
				a, isA := readOperand(l[:i])
				b, isB := readOperand(l[i+1:])
				return steps(a, b, op(api.PredEqual+api.PredKind(k))), isA && isB
			}
		}
	}
	x, is := readOperand(l)
	return steps(x), is && isConstant(x.Kind)
}

func readOperand(l []string) (api.PredStep, bool) {
	if len(l) == 4 && l[1] == "[" && l[2][0] == '"' && l[3] == "]" {
		return said(map[string]api.PredKind{"attr": api.PredAttr, "resource": api.PredResource}[l[0]], unquoted(l[2])), l[0] == "attr" || l[0] == "resource"
	}
	if len(l) != 1 {
		return api.PredStep{}, false
	}
	s := l[0]
	for _, f := range fieldNames() {
		if s == f {
			return inField(s), true
		}
	}
	for word, x := range map[string]api.PredStep{"nan": nan, "true": yes, "false": no, "inf": infinite(1), "-inf": infinite(-1)} {
		if s == word {
			return x, true
		}
	}
	switch {
	case s[0] == '"':
		return aText(unquoted(s)), true
	case s[0] == '-' || s[0] >= '0' && s[0] <= '9':
		_, places, isFloat := strings.Cut(s, ".")
		digits := strings.NewReplacer("-", "", ".", "").Replace(s)
		n, _ := strconv.ParseInt(digits, 10, 64)
		if s[0] == '-' {
			n = -n
		}
		if isFloat {
			return aFloat(n, len(places)), len(digits) <= 15
		}
		return anInt(n), len(digits) <= 15
	}
	return api.PredStep{}, false
}

func unquoted(s string) string {
	return strings.NewReplacer(`\\`, `\`, `\"`, `"`).Replace(s[1 : len(s)-1])
}

// The model's check: what a step takes is looked for from the end on.

// modelCheck tells whether l is right.
func modelCheck(l []api.PredStep) bool {
	if len(l) < 1 || len(l) > api.MaxPred {
		return false
	}
	for _, x := range l {
		if !modelStep(x) {
			return false
		}
	}
	rest, is := takeTruth(l)
	return is && len(rest) == 0
}

func modelStep(x api.PredStep) bool {
	const most = 999999999999999
	switch k := x.Kind; {
	case k == api.PredField:
		return strings.Contains(" "+strings.Join(fieldNames(), " ")+" ", " "+x.Text+" ") && x.Text != "" && !strings.Contains(x.Text, " ") && x.N == 0 && x.Places == 0
	case k >= api.PredAttr && k <= api.PredText:
		return len(x.Text) <= 4096 && x.N == 0 && x.Places == 0
	case k == api.PredInt:
		return x.Text == "" && -most <= x.N && x.N <= most && x.Places == 0
	case k == api.PredFloat:
		return x.Text == "" && -most <= x.N && x.N <= most && 1 <= x.Places && x.Places <= 14
	case k == api.PredInf:
		return x.Text == "" && (x.N == 1 || x.N == -1) && x.Places == 0
	case k == api.PredNaN, k >= api.PredTrue && k <= api.PredOr:
		return x.Text == "" && x.N == 0 && x.Places == 0
	}
	return false
}

func takeTruth(l []api.PredStep) ([]api.PredStep, bool) {
	if len(l) == 0 {
		return nil, false
	}
	rest, is, k := l[:len(l)-1], true, l[len(l)-1].Kind
	takes := map[api.PredKind]int{api.PredNot: 1, api.PredAnd: 2, api.PredOr: 2}[k]
	take := takeTruth
	if isSix(k) {
		takes, take = 2, takeOperand
	} else if k == api.PredHas {
		takes, take = 1, takeOperand
	} else if takes == 0 {
		return rest, isConstant(k)
	}
	for range takes {
		if rest, is = take(rest); !is {
			return nil, false
		}
	}
	return rest, true
}

func takeOperand(l []api.PredStep) ([]api.PredStep, bool) {
	if len(l) == 0 {
		return nil, false
	}
	return l[:len(l)-1], l[len(l)-1].Kind <= api.PredFalse
}

// The model's judgement of a tree.

// operandOf is the value of an operand, and whether it is something.
func operandOf(s api.PredStep, x api.Item, resource []api.Pair) (api.Value, bool) {
	first := func(l []api.Pair) (api.Value, bool) {
		for _, p := range l {
			if p.Key == s.Text {
				return p.Value, true
			}
		}
		return api.Value{}, false
	}
	switch s.Kind {
	case api.PredField:
		return fieldOf(s.Text, x)
	case api.PredAttr:
		return first(x.Attrs)
	case api.PredResource:
		return first(resource)
	case api.PredText:
		return text(s.Text), true
	case api.PredInt:
		return whole(s.N), true
	case api.PredFloat:
		f, _ := strconv.ParseFloat(number(s), 64) // the nearest one
		return part(f + 0), true
	case api.PredNaN:
		return part(math.NaN()), true
	case api.PredInf:
		return part(math.Inf(int(s.N))), true
	}
	return truth(s.Kind == api.PredTrue), true
}

func fieldOf(name string, x api.Item) (api.Value, bool) {
	v := reflect.ValueOf(x).FieldByName(strings.ToUpper(name[:1]) + name[1:])
	switch name {
	case "name", "unit", "message":
		return text(v.String()), true
	case "kind":
		return whole(v.Int()), true
	case "start", "time", "code":
		return whole(int64(v.Uint())), true
	case "trace", "span", "parent":
		return bytes(v.String()), true
	case "body":
		return x.Body, x.Body.Kind != api.KindNone
	}
	switch x.Point.Kind {
	case api.PointInt:
		return whole(x.Point.N), true
	case api.PointFloat:
		return part(x.Point.F), true
	}
	return api.Value{}, false
}

// order holds numbers against each other as parts of whole numbers.
func order(a, b api.Value) (int, bool) {
	if a.Kind == api.KindText && b.Kind == api.KindText {
		return strings.Compare(a.S, b.S), true
	}
	x, isX := exact(a)
	y, isY := exact(b)
	if !isX || !isY {
		return 0, false
	}
	return x.Cmp(y), true
}

func exact(v api.Value) (*big.Float, bool) {
	switch {
	case v.Kind == api.KindInt:
		return new(big.Float).SetInt64(v.N), true
	case v.Kind == api.KindFloat && !math.IsNaN(v.F):
		return big.NewFloat(v.F), true
	}
	return nil, false
}

// modelSix is what the six make of two operands.
func modelSix(k api.PredKind, a, b api.Value, isA, isB bool) bool {
	if !isA || !isB {
		return false
	}
	n, is := order(a, b)
	equal := is && n == 0 || !is && a.Kind != api.KindFloat && same(a, b)
	return []bool{equal, !equal, is && n < 0, is && n <= 0, is && n > 0, is && n >= 0}[k-api.PredEqual]
}

func (x tree) holds(i api.Item, resource []api.Pair) bool {
	kid := func(n int) bool { return x.kids[n].holds(i, resource) }
	switch k := x.step.Kind; {
	case k == api.PredNot:
		return !kid(0)
	case k == api.PredAnd:
		return kid(0) && kid(1)
	case k == api.PredOr:
		return kid(0) || kid(1)
	case k == api.PredHas:
		_, is := operandOf(x.kids[0].step, i, resource)
		return is
	case isSix(k):
		a, isA := operandOf(x.kids[0].step, i, resource)
		b, isB := operandOf(x.kids[1].step, i, resource)
		return modelSix(k, a, b, isA, isB)
	}
	return x.step.Kind == api.PredTrue
}
