package filter

import (
	"strconv"
	"strings"

	"penstock/api"
)

// texts writes right steps.
func texts() machine[string] {
	return machine[string]{
		operand: shown,
		operator: func(x api.PredStep, l ...string) string {
			word := kinds[x.Kind].word
			if x.Kind == api.PredHas {
				return word + "(" + l[0] + ")"
			}
			if len(l) == 1 {
				return "(" + word + " " + l[0] + ")"
			}
			return "(" + l[0] + " " + word + " " + l[1] + ")"
		},
	}
}

// shown is an operand's text.
func shown(x api.PredStep) string {
	word := kinds[x.Kind].word
	switch x.Kind {
	case api.PredField:
		return x.Text
	case api.PredAttr, api.PredResource:
		return word + "[" + quoted(x.Text) + "]"
	case api.PredText:
		return quoted(x.Text)
	case api.PredInt, api.PredFloat:
		return shownNumber(x.N, x.Places)
	case api.PredInf:
		if x.N < 0 {
			return "-" + word
		}
	}
	return word
}

func quoted(s string) string {
	s = strings.ReplaceAll(s, `\`, `\\`)
	s = strings.ReplaceAll(s, `"`, `\"`)
	return `"` + s + `"`
}

// shownNumber is n's digits, so many of them behind a full stop, if that are some.
func shownNumber(n int64, places int) string {
	s, isBelow := strings.CutPrefix(strconv.FormatInt(n, 10), "-")
	s = strings.Repeat("0", max(0, places+1-len(s))) + s
	if isBelow {
		s = "-" + s
	}
	if places == 0 {
		return s
	}
	at := len(s) - places
	return s[:at] + "." + s[at:]
}
