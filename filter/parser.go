package filter

import (
	"strconv"
	"strings"

	"penstock/api"
	"penstock/fail"
)

const (
	letters = "abcdefghijklmnopqrstuvwxyz"
	signs   = "=!<>"
	numbers = "0123456789."
	quote   = `"`
)

// parser is what is left of a text, how many brackets and nots are around it, and the steps till there. Its methods panic with ErrConf, where something else stands.
type parser struct {
	left   string
	around int
	known  map[string]field
	steps  []api.PredStep
}

func parsed(s string) []api.PredStep {
	fail.Unless(len(s) <= api.MaxText, api.ErrLong)
	p := parser{left: s, known: fields()}
	p.or()
	fail.Unless(p.next() == "", api.ErrConf)
	fail.Unless(len(p.steps) <= api.MaxPred, api.ErrMany) // behind all that is ErrConf
	return p.steps
}

// front is as much of what is left as is of these bytes.
func (p *parser) front(of string) string {
	return p.left[:len(p.left)-len(strings.TrimLeft(p.left, of))]
}

// next is what stands behind blanks: a word, an operator, or one byte; nothing at the end.
func (p *parser) next() string {
	p.left = strings.TrimLeft(p.left, " ")
	for _, of := range []string{letters, signs} {
		if s := p.front(of); s != "" {
			return s
		}
	}
	return p.left[:min(1, len(p.left))]
}

// take goes past s, if that is next.
func (p *parser) take(s string) bool {
	if p.next() != s {
		return false
	}
	p.left = p.left[len(s):]
	return true
}

func (p *parser) need(s string) {
	fail.Unless(p.take(s), api.ErrConf)
}

func (p *parser) put(x api.PredStep) {
	p.steps = append(p.steps, x)
}

func (p *parser) or()  { p.row(api.PredOr, p.and) }
func (p *parser) and() { p.row(api.PredAnd, p.not) }

// row is parts with the operator between them.
func (p *parser) row(k api.PredKind, part func()) {
	part()
	for p.take(kinds[k].word) {
		part()
		p.put(api.PredStep{Kind: k})
	}
}

func (p *parser) not() {
	if !p.take(kinds[api.PredNot].word) {
		p.primary()
		return
	}
	p.within(p.not)
	p.put(api.PredStep{Kind: api.PredNot})
}

// within is a part with a bracket or a not more around it.
func (p *parser) within(part func()) {
	p.around++
	fail.Unless(p.around <= api.MaxDepth, api.ErrConf)
	part()
	p.around--
}

func (p *parser) primary() {
	switch {
	case p.take("("):
		p.within(p.or)
		p.need(")")
	case p.take(kinds[api.PredHas].word):
		p.need("(")
		p.put(p.operand())
		p.need(")")
		p.put(api.PredStep{Kind: api.PredHas})
	default:
		p.comparison()
	}
}

// comparison is two operands with one of the six between, or an operand that is a truth.
func (p *parser) comparison() {
	first := p.operand()
	p.put(first)
	for k := api.PredEqual; k <= api.PredLeast; k++ {
		if p.take(kinds[k].word) {
			p.put(p.operand())
			p.put(api.PredStep{Kind: k})
			return
		}
	}
	fail.Unless(kinds[first.Kind].puts&aTruth > 0, api.ErrConf)
}

func (p *parser) operand() api.PredStep {
	word := p.next()
	x := api.PredStep{Kind: p.called(word)}
	switch x.Kind {
	case api.PredField:
		p.need(word)
		x.Text = word
	case api.PredAttr, api.PredResource:
		p.need(word)
		p.need("[")
		x.Text = p.text()
		p.need("]")
	case api.PredText:
		x.Text = p.text()
	case api.PredNaN, api.PredTrue, api.PredFalse:
		p.need(word)
	default:
		return p.number()
	}
	return x
}

// called is the kind of operand that begins with word; PredNone, if only a number may.
func (p *parser) called(word string) api.PredKind {
	if _, is := p.known[word]; is {
		return api.PredField
	}
	if word == quote {
		return api.PredText
	}
	for _, k := range []api.PredKind{api.PredAttr, api.PredResource, api.PredNaN, api.PredTrue, api.PredFalse} {
		if kinds[k].word == word {
			return k
		}
	}
	return api.PredNone
}

func (p *parser) text() string {
	p.need(quote)
	var text strings.Builder
	for b := p.byte(); b != quote[0]; b = p.byte() {
		if b == '\\' {
			b = p.byte()
			fail.Unless(b == '\\' || b == quote[0], api.ErrConf)
		}
		text.WriteByte(b)
	}
	return text.String()
}

func (p *parser) byte() byte {
	fail.Unless(p.left != "", api.ErrConf)
	b := p.left[0]
	p.left = p.left[1:]
	return b
}

// number has no blanks in it; a - may stand ahead.
func (p *parser) number() api.PredStep {
	sign := int64(1)
	if rest, is := strings.CutPrefix(p.left, "-"); is {
		p.left = rest
		sign = -1
	}
	x := api.PredStep{Kind: api.PredInf, N: 1}
	word := kinds[api.PredInf].word
	if p.front(letters) != word {
		word = p.front(numbers)
		x = decimal(word)
	}
	p.left = p.left[len(word):]
	x.N *= sign
	return x
}

// decimal is the number that s is. That is held against what would be written, since each number has one text without a sign.
func decimal(s string) api.PredStep {
	whole, part, _ := strings.Cut(s, ".")
	n, _ := strconv.ParseInt(whole+part, 10, 64)
	x := api.PredStep{Kind: api.PredInt, N: n, Places: len(part)}
	if part != "" {
		x.Kind = api.PredFloat
	}
	fail.Unless(isStep(x, nil) && shown(x) == s, api.ErrConf)
	return x
}
