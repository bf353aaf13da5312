package pdata_test

import (
	"math/rand/v2"
	"runtime"
	"slices"
	"strings"
	"testing"

	"penstock/api"
	"penstock/pdata"
)

// calls is what answers data, each handed two.
func calls() map[string]func(a, b api.Data) []api.Data {
	split := func(d api.Data, n int) []api.Data {
		first, others, _ := pdata.Split(d, n)
		return []api.Data{first, others}
	}
	merge := func(a, b api.Data) []api.Data {
		d, _ := pdata.Merge(a, b)
		return []api.Data{d}
	}
	return map[string]func(a, b api.Data) []api.Data{
		"Split":               func(a, b api.Data) []api.Data { return split(a, 1) },
		"Split in the middle": func(a, b api.Data) []api.Data { return split(a, pdata.Items(a)/2) },
		"Split at the end":    func(a, b api.Data) []api.Data { return split(a, pdata.Items(a)) },
		"Merge":               merge,
		"Merge of nothing":    func(a, b api.Data) []api.Data { return merge(api.Data{Signal: a.Signal}, b) },
		"Merge and nothing":   func(a, b api.Data) []api.Data { return merge(a, api.Data{Signal: a.Signal}) },
		"Merge of itself":     func(a, b api.Data) []api.Data { return merge(a, a) },
		"Tidy": func(a, b api.Data) []api.Data {
			d, _ := pdata.Tidy(a)
			return []api.Data{d}
		},
		"Keep": func(a, b api.Data) []api.Data {
			d, _ := pdata.Keep(a, slices.Repeat([]bool{true}, 1000))
			return []api.Data{d}
		},
	}
}

func TestP34NewMemory(t *testing.T) {
	for name, do := range calls() {
		for _, s := range signals() {
			a, b := full(s), full(s)
			b.Groups[0].Scope = "new"
			beforeA, beforeB := twin(roomOf(a)), twin(roomOf(b))
			first, second := do(a, b), do(a, b)
			if !same(roomOf(a), beforeA) || !same(roomOf(b), beforeB) {
				t.Errorf("%s: what was handed in is changed", name)
			}
			checkApart(t, name, []api.Data{a, b}, slices.Concat(first, second))
			want := twin(second)
			spoil(first)
			if !same(roomOf(a), beforeA) || !same(roomOf(b), beforeB) {
				t.Errorf("%s: the answer and what was handed in share memory", name)
			}
			spoil([]api.Data{a, b})
			if !same(second, want) || len(all(want[0])) == 0 {
				t.Errorf("%s: what was handed in, or an earlier answer, is kept", name)
			}
		}
	}
}

// roomOf is d with the room behind its groups, and behind the items of each, as if that were some more.
func roomOf(d api.Data) api.Data {
	d.Groups = slices.Clone(d.Groups[:cap(d.Groups)])
	for i := range d.Groups {
		d.Groups[i].Items = d.Groups[i].Items[:cap(d.Groups[i].Items)]
	}
	return d
}

func TestP34WhichIsNotChanged(t *testing.T) {
	which := []bool{true, false, true, true}
	if _, why := pdata.Keep(logs("a:1 2", "b:3 4"), which[:3]); why != api.OK || !slices.Equal(which, []bool{true, false, true, true}) {
		t.Errorf("Keep: which is %v, error %d", which, why)
	}
}

// anything is data of which some things may be wrong.
func anything(r *rand.Rand) api.Data {
	s := signals()[r.IntN(3)]
	d := some(r, s)
	for i := range d.Groups {
		g := &d.Groups[i]
		switch r.IntN(12) {
		case 0:
			g.Scope = wrong
		case 1:
			g.Resource = pairs(pair("", api.Value{Kind: api.Kind(r.IntN(256)), N: 1}))
		}
		for j := range g.Items {
			spoilItem(r, &g.Items[j])
		}
	}
	if r.IntN(10) == 0 {
		d.Signal = api.Signal(r.IntN(6))
	}
	return d
}

func spoilItem(r *rand.Rand, x *api.Item) {
	switch r.IntN(30) {
	case 0:
		x.Kind = int32(r.Uint32())
	case 1:
		x.Point = api.Point{Kind: api.PointKind(r.IntN(10)), Bounds: make([]float64, r.IntN(3)), Counts: make([]uint64, r.IntN(3)), Count: r.Uint64N(2), Quants: make([]api.Quant, r.IntN(2))}
	case 2:
		x.Attrs = pairs(pair("a", nested(r.IntN(20))))
	case 3:
		x.Name = strings.Repeat("a", api.MaxText+r.IntN(2))
	case 4:
		x.Trace, x.Span, x.Parent = trace[:r.IntN(17)], trace[:r.IntN(10)], trace[:r.IntN(10)]
	}
}

func TestP1AndP2AnyData(t *testing.T) {
	r := rand.New(rand.NewPCG(3, 1))
	for range 5000 {
		a, b := anything(r), anything(r)
		why := pdata.Check(a)
		first, others, whySplit := pdata.Split(a, r.IntN(9))
		checkErr(t, "Split", whySplit, why)
		tidy, whyTidy := pdata.Tidy(a)
		checkErr(t, "Tidy", whyTidy, why)
		kept, whyKeep := pdata.Keep(a, make([]bool, r.IntN(9)))
		checkErr(t, "Keep", whyKeep, why)
		both, whyMerge := pdata.Merge(a, b)
		if why != api.OK {
			checkErr(t, "Merge", whyMerge, why)
			checkData(t, "Split beside an error", first, api.Data{})
			checkData(t, "Split beside an error", others, api.Data{})
			checkData(t, "Tidy beside an error", tidy, api.Data{})
			checkData(t, "Keep beside an error", kept, api.Data{})
		}
		if whyMerge != api.OK {
			checkData(t, "Merge beside an error", both, api.Data{})
		}
		if !pdata.Same(a, twin(a)) || pdata.Items(a) != len(all(a)) {
			t.Error("Same, Items of", told(a))
		}
	}
}

func TestP1ManyNested(t *testing.T) {
	deep := nested(1<<16 - 20)
	for _, d := range []api.Data{data(api.SignalLog, group("", api.Item{Body: deep})), data(api.SignalLog, group("", api.Item{Attrs: pairs(pair("a", deep))})), data(api.SignalTrace, api.Group{Resource: pairs(pair("a", deep))})} {
		checkErr(t, "Check", pdata.Check(d), api.ErrDepth)
		if !pdata.Same(d, d) {
			t.Error("Same of what is nested deep")
		}
	}
}

func TestP3AndP4AlwaysTheSame(t *testing.T) {
	before := runtime.NumGoroutine()
	for _, s := range signals() {
		a, b := full(s), full(s)
		want, _ := pdata.Merge(a, b)
		for extra := range 20 {
			c := a
			c.Groups = append(make([]api.Group, 0, 3+extra), a.Groups...)
			got, why := pdata.Merge(c, b)
			checkErr(t, "Merge", why, api.OK)
			checkData(t, "Merge", got, want)
		}
	}
	for range 1000 { // one that is joined may still be on its way out
		if runtime.NumGoroutine() <= before {
			return
		}
		runtime.Gosched()
	}
	t.Errorf("%d goroutines are left", runtime.NumGoroutine()-before)
}
