package collect

import (
	"slices"

	"penstock/api"
	"penstock/attrs"
	"penstock/batch"
	"penstock/export"
	"penstock/fail"
	"penstock/filter"
	"penstock/graph"
	"penstock/pdata"
)

// step is to where data of a pipeline go next.
type step struct{ pipes, exporters []int }

// after is the pipeline's step; it is asked for once, since that looks at the whole config.
func (x *changed) after(pipe int) step {
	s, is := x.ahead[pipe]
	if !is {
		pipes, exporters, why := graph.After(x.Config, pipe)
		fail.On(why)
		s = step{pipes, exporters}
		x.ahead[pipe] = s
	}
	return s
}

// pass has d go through a pipeline, from one of its processors on.
func (x *changed) pass(d api.Data, pipe, from int) {
	procs := x.Config.Pipes[pipe].Procs
	for at := from; at < len(procs) && pdata.Items(d) > 0; at++ {
		p := x.procs[procs[at]]
		switch p.kind {
		case ofAttrs:
			d = x.apply(d, p.actions)
		case ofFilter:
			d = x.drop(d, p.drop)
		case ofBatch:
			x.add(d, pipe, at)
			return
		}
	}
	if pdata.Items(d) > 0 {
		x.leave(d, pipe)
	}
}

// apply is d behind the actions, or nothing.
func (x *changed) apply(d api.Data, a api.Attrs) api.Data {
	next, why := attrs.Apply(d, a)
	if why != api.OK {
		x.Removed += uint64(pdata.Items(d))
	}
	return next
}

func (x *changed) drop(d api.Data, l []api.PredStep) api.Data {
	next, n, why := filter.Drop(d, l)
	fail.On(why)
	x.Removed += uint64(n)
	return next
}

// add puts d to the slot of a pipeline's processor.
func (x *changed) add(d api.Data, pipe, proc int) {
	slot := slices.IndexFunc(x.Slots, func(s api.Slot) bool { return s.Pipe == pipe && s.Proc == proc })
	x.release(slot, func(b api.Batch, r api.BatchRules) (api.Batch, []api.Data, api.Errno) {
		return batch.Add(b, r, d, x.now)
	})
}

// release has what goes from a slot, when that is done which is handed in, go on behind it.
func (x *changed) release(slot int, do func(api.Batch, api.BatchRules) (api.Batch, []api.Data, api.Errno)) {
	s := &x.Slots[slot]
	next, gone, why := do(s.Batch, x.batchOf(x.Config, *s))
	fail.On(why)
	s.Batch = next
	for _, d := range gone {
		x.pass(d, s.Pipe, s.Proc+1)
	}
}

// leave has d go to all that is behind a pipeline.
func (x *changed) leave(d api.Data, pipe int) {
	next := x.after(pipe)
	for _, p := range next.pipes {
		x.pass(d, p, 0)
	}
	for _, i := range next.exporters {
		e, why := export.Offer(x.Exporters[i], x.exports[i], d)
		fail.On(why)
		x.Exporters[i] = e
	}
}
