package batch_test

import (
	"iter"
	"math/rand/v2"
	"slices"
	"strconv"
	"strings"
	"testing"

	"penstock/api"
	"penstock/batch"
	"penstock/pdata"
)

// step is a call in a batch's life: what was held ahead of it, what came, if it was Add, and what it answered.
type step struct {
	call   string
	before api.Batch
	came   api.Data
	at     uint64
	answer
}

// life is a batch's.
type life struct {
	rules  api.BatchRules
	signal api.Signal
	steps  []step
}

// lives yields any: short ones, such that come past MaxGroups, and such that come past MaxItems.
func lives(seed uint64) iter.Seq[life] {
	r := rand.New(rand.NewPCG(16, seed))
	return func(yield func(life) bool) {
		for i := range 360 {
			by, scopes, items := rules(1, 1+r.IntN(8), r.Uint64N(20)), 1+r.IntN(6), 1+r.IntN(6)
			by.Size += r.IntN(by.Max)
			switch {
			case i >= 330:
				by, scopes, items = rules(api.MaxItems-r.IntN(100), api.MaxItems, r.Uint64N(500)), 2+r.IntN(4), 250
			case i >= 300:
				by, scopes, items = rules(90+r.IntN(10), 100+r.IntN(300), r.Uint64N(500)), 60+r.IntN(40), 2
			}
			if !yield(someLife(r, by, scopes, items)) {
				return
			}
		}
	}
}

func someLife(r *rand.Rand, by api.BatchRules, scopes, items int) life {
	l := life{rules: by, signal: pick(r, signals()...)}
	var b api.Batch
	now, number := r.Uint64N(5), 0
	for range 30 {
		now += r.Uint64N(12)
		x := step{call: pick(r, "Add", "Add", "Add", "Add", "Add", "Tick", "Tick", "Flush"), before: b, at: now}
		switch x.call {
		case "Add":
			var groups []string
			for range min(r.IntN(scopes), api.MaxGroups) {
				names := numbered(number, number+r.IntN(items))
				number += items
				groups = append(groups, "s"+strconv.Itoa(r.IntN(scopes))+":"+names)
			}
			x.came = data(l.signal, groups...)
			x.answer = add(b, by, x.came, now)
		case "Tick":
			x.at -= min(now, r.Uint64N(4))
			x.answer = tick(b, by, x.at)
		case "Flush":
			x.answer = flush(b, by)
		}
		b = x.Batch
		l.steps = append(l.steps, x)
	}
	return l
}

// TestP162AndP163Lives has each answer held against the model.
func TestP162AndP163Lives(t *testing.T) {
	early := 0 // how often what was held went ahead of what came
	for l := range lives(1) {
		m := &model{size: l.rules.Size, most: l.rules.Max, wait: l.rules.Wait}
		for _, x := range l.steps {
			switch x.call {
			case "Add":
				m.add(scopedOf(x.came), x.at)
			case "Tick":
				m.tick(x.at)
			case "Flush":
				m.flush()
			}
			check(t, x.call, x.answer, m.answer(l.signal))
			if x.call == "Add" && len(x.Gone) > 0 && slices.Equal(told(x.before.Held), told(x.Gone[0])) {
				early++
			}
		}
	}
	if early < 50 {
		t.Errorf("what was held went ahead of what came %d times only", early)
	}
}

// names are those of items, a scope's ahead of each.
func names(all ...api.Data) []string {
	var l []string
	for _, d := range all {
		for _, g := range scopedOf(d) {
			for _, name := range g.names {
				l = append(l, g.scope+" "+name)
			}
		}
	}
	return l
}

func TestP165NothingIsLost(t *testing.T) {
	had := 0
	for l := range lives(2) {
		for _, x := range l.steps {
			were := names(x.before.Held, x.came)
			are := names(append(x.Gone, x.Batch.Held)...)
			slices.Sort(were)
			slices.Sort(are)
			if !slices.Equal(were, are) {
				t.Errorf("%s: %d were, %d are: %v", x.call, len(were), len(are), x.answer)
			}
			for _, d := range x.Gone {
				if n := pdata.Items(d); n < 1 || n > l.rules.Max || pdata.Check(d) != api.OK {
					t.Errorf("%d items go by %+v, error %d", n, l.rules, pdata.Check(d))
				}
				had++
			}
		}
	}
	if had < 3000 {
		t.Errorf("%d went only", had)
	}
}

func TestP166NotTooMany(t *testing.T) {
	for l := range lives(3) {
		for _, x := range l.steps {
			if why := batch.Check(x.Batch, l.rules); why != api.OK || pdata.Items(x.Batch.Held) >= l.rules.Size {
				t.Errorf("%s by %+v: error %d, %v", x.call, l.rules, why, x.answer)
			}
		}
	}
}

func TestP167InTime(t *testing.T) {
	had := 0
	for l := range lives(4) {
		came := map[string]uint64{} // when items came
		for _, x := range l.steps {
			for _, name := range names(x.came) {
				came[name] = x.at
			}
			if x.call != "Tick" {
				continue
			}
			for _, name := range names(x.Batch.Held) {
				if at := came[name]; x.at >= at && x.at-at >= l.rules.Wait {
					t.Errorf("%s came at %d, and is held behind Tick at %d by %+v", name, at, x.at, l.rules)
				}
			}
			had += len(x.Gone)
		}
	}
	if had < 100 {
		t.Errorf("%d went only", had)
	}
}

func TestP168InOrder(t *testing.T) {
	for l := range lives(5) {
		came, gone := map[string][]string{}, map[string][]string{} // by scopes
		put := func(to map[string][]string, d api.Data) {
			for _, name := range names(d) {
				scope, _, _ := strings.Cut(name, " ")
				to[scope] = append(to[scope], name)
			}
		}
		for _, x := range l.steps {
			put(came, x.came)
			for _, d := range x.Gone {
				put(gone, d)
			}
		}
		put(gone, l.steps[len(l.steps)-1].Batch.Held)
		for scope := range came {
			if !slices.Equal(came[scope], gone[scope]) {
				t.Errorf("of %s %d came, and %d went or are held, not in order", scope, len(came[scope]), len(gone[scope]))
			}
		}
	}
}
