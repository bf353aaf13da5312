package pdata

import (
	"math"
	"slices"

	"penstock/api"
	"penstock/value"
)

// Same tells whether a and b are one, field by field, floats by their bits.
func Same(a, b api.Data) bool {
	return a.Signal == b.Signal && slices.EqualFunc(a.Groups, b.Groups, sameGroup)
}

// SameItem tells whether a and b are one, field by field, floats by their bits.
func SameItem(a, b api.Item) bool {
	return a.Name == b.Name && a.Unit == b.Unit && a.Kind == b.Kind &&
		a.Temp == b.Temp && a.Mono == b.Mono &&
		a.Start == b.Start && a.Time == b.Time &&
		a.Trace == b.Trace && a.Span == b.Span && a.Parent == b.Parent &&
		a.Code == b.Code && a.Message == b.Message &&
		value.SamePairs(a.Attrs, b.Attrs) && value.Same(a.Body, b.Body) &&
		samePoint(a.Point, b.Point)
}

func sameGroup(a, b api.Group) bool {
	return alike(a, b) && slices.EqualFunc(a.Items, b.Items, SameItem)
}

// alike tells whether items of a and b may stand in one group.
func alike(a, b api.Group) bool {
	return a.Scope == b.Scope && a.Version == b.Version &&
		value.SamePairs(a.Resource, b.Resource) && value.SamePairs(a.Attrs, b.Attrs)
}

func samePoint(a, b api.Point) bool {
	return a.Kind == b.Kind && a.N == b.N && sameFloat(a.F, b.F) &&
		a.Count == b.Count && sameFloat(a.Sum, b.Sum) && a.HasSum == b.HasSum &&
		slices.EqualFunc(a.Bounds, b.Bounds, sameFloat) && slices.Equal(a.Counts, b.Counts) &&
		a.Scale == b.Scale && a.Zero == b.Zero &&
		a.Offset == b.Offset && a.NegOffset == b.NegOffset && slices.Equal(a.NegCounts, b.NegCounts) &&
		slices.EqualFunc(a.Quants, b.Quants, sameQuant)
}

func sameQuant(a, b api.Quant) bool {
	return sameFloat(a.Q, b.Q) && sameFloat(a.V, b.V)
}

func sameFloat(a, b float64) bool {
	return math.Float64bits(a) == math.Float64bits(b)
}
