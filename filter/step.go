package filter

import (
	"penstock/api"
	"penstock/fail"
)

const (
	mostNumber = 999_999_999_999_999 // fifteen digits
	mostPlaces = 14
)

// shape is what may be taken from a place on the stack.
type shape uint8

const (
	anOperand shape = 1 << iota
	aTruth
)

// kind is what steps of one are: their word in a text, how many they take, of which shape, and what shape they put.
type kind struct {
	word  string
	takes int
	of    shape
	puts  shape
}

var kinds = [api.PredCount]kind{
	api.PredField:    {puts: anOperand},
	api.PredAttr:     {word: "attr", puts: anOperand},
	api.PredResource: {word: "resource", puts: anOperand},
	api.PredText:     {puts: anOperand},
	api.PredInt:      {puts: anOperand},
	api.PredFloat:    {puts: anOperand},
	api.PredNaN:      {word: "nan", puts: anOperand},
	api.PredInf:      {word: "inf", puts: anOperand},
	api.PredTrue:     {word: "true", puts: anOperand | aTruth},
	api.PredFalse:    {word: "false", puts: anOperand | aTruth},
	api.PredHas:      {"has", 1, anOperand, aTruth},
	api.PredEqual:    {"==", 2, anOperand, aTruth},
	api.PredUnlike:   {"!=", 2, anOperand, aTruth},
	api.PredLess:     {"<", 2, anOperand, aTruth},
	api.PredMost:     {"<=", 2, anOperand, aTruth},
	api.PredMore:     {">", 2, anOperand, aTruth},
	api.PredLeast:    {">=", 2, anOperand, aTruth},
	api.PredNot:      {"not", 1, aTruth, aTruth},
	api.PredAnd:      {"and", 2, aTruth, aTruth},
	api.PredOr:       {"or", 2, aTruth, aTruth},
}

func checkSteps(l []api.PredStep) {
	fail.Unless(len(l) <= api.MaxPred, api.ErrConf)
	known := fields()
	for _, x := range l {
		fail.Unless(isStep(x, known), api.ErrConf)
	}
	left := shapes().run(l)
	fail.Unless(len(left) == 1 && left[0]&aTruth > 0, api.ErrConf)
}

// shapes tells of what shape that is which is put, and panics with ErrConf, where another one is taken.
func shapes() machine[shape] {
	return machine[shape]{
		operand: func(x api.PredStep) shape { return kinds[x.Kind].puts },
		operator: func(x api.PredStep, l ...shape) shape {
			k := kinds[x.Kind]
			for _, s := range l {
				fail.Unless(s&k.of > 0, api.ErrConf)
			}
			return k.puts
		},
	}
}

func isStep(x api.PredStep, known map[string]field) bool {
	if x != bare(x) || len(x.Text) > api.MaxText || x.N < -mostNumber || x.N > mostNumber {
		return false
	}
	switch x.Kind {
	case api.PredField:
		_, is := known[x.Text]
		return is
	case api.PredFloat:
		return x.Places >= 1 && x.Places <= mostPlaces
	case api.PredInf:
		return x.N == 1 || x.N == -1
	}
	return x.Kind > api.PredNone && x.Kind < api.PredCount
}

// bare is x with those fields alone that its kind has.
func bare(x api.PredStep) api.PredStep {
	out := api.PredStep{Kind: x.Kind}
	switch x.Kind {
	case api.PredField, api.PredAttr, api.PredResource, api.PredText:
		out.Text = x.Text
	case api.PredInt, api.PredInf:
		out.N = x.N
	case api.PredFloat:
		out.N, out.Places = x.N, x.Places
	}
	return out
}
