package filter

import (
	"math"
	"slices"

	"penstock/api"
	"penstock/value"
)

// operand is a value, or nothing. Of a truth it is a bool's.
type operand struct {
	is    bool
	value api.Value
}

// field is what is in a field of an item.
type field func(api.Item) operand

func fields() map[string]field {
	return map[string]field{
		"name":    func(x api.Item) operand { return text(x.Name) },
		"unit":    func(x api.Item) operand { return text(x.Unit) },
		"message": func(x api.Item) operand { return text(x.Message) },
		"kind":    func(x api.Item) operand { return whole(int64(x.Kind)) },
		"start":   func(x api.Item) operand { return whole(int64(x.Start)) },
		"time":    func(x api.Item) operand { return whole(int64(x.Time)) },
		"code":    func(x api.Item) operand { return whole(int64(x.Code)) },
		"trace":   func(x api.Item) operand { return bytes(x.Trace) },
		"span":    func(x api.Item) operand { return bytes(x.Span) },
		"parent":  func(x api.Item) operand { return bytes(x.Parent) },
		"body":    func(x api.Item) operand { return operand{x.Body.Kind != api.KindNone, x.Body} },
		"value":   func(x api.Item) operand { return point(x.Point) },
	}
}

func text(s string) operand  { return operand{true, api.Value{Kind: api.KindText, S: s}} }
func bytes(s string) operand { return operand{true, api.Value{Kind: api.KindBytes, S: s}} }
func whole(n int64) operand  { return operand{true, api.Value{Kind: api.KindInt, N: n}} }
func part(f float64) operand { return operand{true, api.Value{Kind: api.KindFloat, F: f}} }
func truth(b bool) operand   { return operand{true, api.Value{Kind: api.KindBool, B: b}} }

func point(p api.Point) operand {
	switch p.Kind {
	case api.PointInt:
		return whole(p.N)
	case api.PointFloat:
		return part(p.F)
	}
	return operand{}
}

// attribute does without value.Get, since that copies all that is in a value.
func attribute(l []api.Pair, key string) operand {
	at := slices.IndexFunc(l, func(p api.Pair) bool { return p.Key == key })
	if at < 0 {
		return operand{}
	}
	return operand{true, l[at].Value}
}

// asking tells of an item, and its resource, whether right steps hold.
func asking(l []api.PredStep) func(api.Item, []api.Pair) bool {
	known := fields()
	return func(x api.Item, resource []api.Pair) bool {
		m := machine[operand]{
			operand: func(s api.PredStep) operand {
				switch s.Kind {
				case api.PredField:
					return known[s.Text](x)
				case api.PredAttr:
					return attribute(x.Attrs, s.Text)
				case api.PredResource:
					return attribute(resource, s.Text)
				}
				return constant(s)
			},
			operator: func(s api.PredStep, l ...operand) operand { return truth(judged(s.Kind, l)) },
		}
		return m.run(l)[0].value.B
	}
}

// constant is what a step puts, whatever the item.
func constant(s api.PredStep) operand {
	switch s.Kind {
	case api.PredText:
		return text(s.Text)
	case api.PredInt:
		return whole(s.N)
	case api.PredFloat:
		return part(float64(s.N) / math.Pow10(s.Places)) // both are floats exactly, so that this is the nearest one
	case api.PredNaN:
		return part(math.NaN())
	case api.PredInf:
		return part(math.Inf(int(s.N)))
	}
	return truth(s.Kind == api.PredTrue)
}

// judged is what an operator makes of that which it takes.
func judged(k api.PredKind, l []operand) bool {
	first, last := l[0], l[len(l)-1]
	switch k {
	case api.PredHas:
		return first.is
	case api.PredNot:
		return !first.value.B
	case api.PredAnd:
		return first.value.B && last.value.B
	case api.PredOr:
		return first.value.B || last.value.B
	}
	return first.is && last.is && compared(k, first.value, last.value)
}

// compared is what one of the six makes of two values.
func compared(k api.PredKind, a, b api.Value) bool {
	n, is := value.Compare(a, b)
	switch k {
	case api.PredEqual:
		return isEqual(a, b)
	case api.PredUnlike:
		return !isEqual(a, b)
	case api.PredLess:
		return is && n < 0
	case api.PredMost:
		return is && n <= 0
	case api.PredMore:
		return is && n > 0
	}
	return is && n >= 0
}

// isEqual is false of floats that have no order, even if they are the same: one is NaN.
func isEqual(a, b api.Value) bool {
	if n, is := value.Compare(a, b); is {
		return n == 0
	}
	return a.Kind != api.KindFloat && value.Same(a, b)
}
