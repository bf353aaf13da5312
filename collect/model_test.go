package collect_test

import (
	"slices"

	"penstock/api"
	"penstock/attrs"
	"penstock/batch"
	"penstock/export"
	"penstock/filter"
	"penstock/pdata"
	"penstock/server"
)

// model is a collector as the chapter tells of it: data on their way are jobs in a row.
type model struct {
	api.Collector
	now uint64
}

// job is data ahead of a pipeline's processor, or ahead of an exporter.
type job struct {
	data     api.Data
	pipe     int
	proc     int
	exporter int // below 0: none
}

func modelOf(c api.Collector) *model { return &model{Collector: twin(c)} }

func index(l []api.Comp, name string) int {
	return slices.IndexFunc(l, func(x api.Comp) bool { return x.Name == name })
}

// takers are the pipelines that receive from it.
func takers(c api.Config, name string) []int {
	var l []int
	for i, p := range c.Pipes {
		if slices.Contains(p.Receivers, name) {
			l = append(l, i)
		}
	}
	return l
}

// givers are how many steps lead to a pipeline from those that are not done.
func givers(c api.Config, pipe int, done []int) int {
	n := 0
	for i, p := range c.Pipes {
		for _, x := range c.Conns {
			if !slices.Contains(done, i) && slices.Contains(p.Exporters, x.Name) && slices.Contains(c.Pipes[pipe].Receivers, x.Name) {
				n++
			}
		}
	}
	return n
}

func order(c api.Config) []int {
	var l []int
	for range c.Pipes {
		for i := range c.Pipes {
			if !slices.Contains(l, i) && givers(c, i, l) == 0 {
				l = append(l, i)
				break
			}
		}
	}
	return l
}

// slotsOf are the pipelines and the places of a config's batches.
func slotsOf(c api.Config) [][2]int {
	var l [][2]int
	for _, pipe := range order(c) {
		for at, name := range c.Pipes[pipe].Procs {
			if c.Procs[index(c.Procs, name)].Kind == "batch" {
				l = append(l, [2]int{pipe, at})
			}
		}
	}
	return l
}

func (m *model) exportRules(i int) api.ExportRules {
	r, _ := export.Read(m.Config.Exporters[i].Node)
	return r
}

func (m *model) run(jobs ...job) {
	for len(jobs) > 0 {
		next := m.step(jobs[0])
		jobs = append(next, jobs[1:]...)
	}
}

// step is the jobs that come of one.
func (m *model) step(j job) []job {
	n := uint64(pdata.Items(j.data))
	if n == 0 {
		return nil
	}
	if j.exporter >= 0 {
		m.Exporters[j.exporter], _ = export.Offer(m.Exporters[j.exporter], m.exportRules(j.exporter), j.data)
		return nil
	}
	p := m.Config.Pipes[j.pipe]
	if j.proc == len(p.Procs) {
		return m.ends(j)
	}
	next := job{j.data, j.pipe, j.proc + 1, -1}
	x := m.Config.Procs[index(m.Config.Procs, p.Procs[j.proc])]
	switch x.Kind {
	case "attributes":
		a, _ := attrs.Read(x.Node)
		d, why := attrs.Apply(j.data, a)
		if why != api.OK {
			m.Removed += n
			return nil
		}
		next.data = d
	case "filter":
		l, _ := filter.Read(x.Node)
		d, _, _ := filter.Drop(j.data, l)
		m.Removed += n - uint64(pdata.Items(d))
		next.data = d
	case "batch":
		return m.slot(j.pipe, j.proc, func(b api.Batch, r api.BatchRules) (api.Batch, []api.Data, api.Errno) {
			return batch.Add(b, r, j.data, m.now)
		})
	}
	return []job{next}
}

// slot is the jobs that come of what is done with a slot.
func (m *model) slot(pipe, proc int, do func(api.Batch, api.BatchRules) (api.Batch, []api.Data, api.Errno)) []job {
	at := slices.Index(slotsOf(m.Config), [2]int{pipe, proc})
	r, _ := batch.Read(m.Config.Procs[index(m.Config.Procs, m.Config.Pipes[pipe].Procs[proc])].Node)
	b, gone, _ := do(m.Slots[at].Batch, r)
	m.Slots[at].Batch = b
	var jobs []job
	for _, d := range gone {
		jobs = append(jobs, job{d, pipe, proc + 1, -1})
	}
	return jobs
}

// ends are the jobs behind a pipeline: all other pipelines first.
func (m *model) ends(j job) []job {
	var pipes, exporters []job
	for _, name := range m.Config.Pipes[j.pipe].Exporters {
		if i := index(m.Config.Exporters, name); i >= 0 {
			exporters = append(exporters, job{j.data, 0, 0, i})
			continue
		}
		for _, pipe := range takers(m.Config, name) {
			pipes = append(pipes, job{j.data, pipe, 0, -1})
		}
	}
	return append(pipes, exporters...)
}

// do is what Do answers of a right collector.
func (m *model) do(x api.Move) answer {
	m.now = x.Now
	before := twin(m.Collector)
	out := m.move(x)
	if out.Why != api.OK {
		return stays(before, out.Why)
	}
	return becomes(m.Collector, out)
}

func (m *model) move(x api.Move) api.Out {
	switch x.Kind {
	case api.MoveConnect:
		return m.connect(x.Text)
	case api.MoveFeed, api.MoveLook, api.MoveTake:
		at := slices.IndexFunc(m.Lines, func(l api.Line) bool { return l.Id == x.Line })
		if at < 0 {
			return api.Out{Why: api.ErrUnknown}
		}
		return m.line(at, x)
	case api.MoveTick, api.MoveStop:
		return m.slots(x.Kind == api.MoveStop)
	case api.MoveSend, api.MoveReply:
		if x.Exporter < 0 || x.Exporter >= len(m.Exporters) {
			return api.Out{Why: api.ErrRange}
		}
		return m.exporter(x)
	case api.MoveCrash:
		return m.crash(x.Keeps)
	}
	return api.Out{Why: api.ErrType}
}

func (m *model) connect(receiver string) api.Out {
	switch {
	case index(m.Config.Receivers, receiver) < 0:
		return api.Out{Why: api.ErrUnknown}
	case len(m.Lines) >= 32:
		return api.Out{Why: api.ErrFull}
	case m.Stopped:
		return api.Out{Why: api.ErrState}
	}
	m.Last++
	m.Lines = append(m.Lines, api.Line{Id: m.Last, Receiver: receiver, Conn: api.Conn{Since: m.now}})
	return api.Out{N: uint64(m.Last)}
}

func (m *model) line(at int, x api.Move) api.Out {
	l := &m.Lines[at]
	var out api.Out
	switch x.Kind {
	case api.MoveFeed:
		l.Conn, out.Why = server.Feed(l.Conn, m.Rules, x.Text, m.now)
	case api.MoveTake:
		l.Conn, out.Text, _ = server.Take(l.Conn, m.Rules)
		if l.Conn.Closed {
			m.Lines = append(m.Lines[:at:at], m.Lines[at+1:]...)
		}
	case api.MoveLook:
		conn, d, next, _ := server.Look(l.Conn, m.Rules, m.now)
		if next != api.NextNone {
			out.N = 1
		}
		if next == api.NextData {
			conn, _ = server.Answer(conn, m.Rules, m.data(d, l.Receiver), api.Partial{}, m.now)
		}
		l.Conn = conn
	}
	return out
}

func (m *model) data(d api.Data, receiver string) int {
	n := uint64(pdata.Items(d))
	if m.Stopped {
		m.Refused += n
		return 503
	}
	if rawHeld(m.Collector)+n > uint64(m.Limit) {
		m.Refused += n
		return 429
	}
	m.Accepted += n
	var jobs []job
	for _, pipe := range takers(m.Config, receiver) {
		if m.Config.Pipes[pipe].Signal == d.Signal {
			jobs = append(jobs, job{d, pipe, 0, -1})
		}
	}
	m.run(jobs...)
	return 200
}

// slots is a tick, or a stop.
func (m *model) slots(stops bool) api.Out {
	for i := range m.Lines {
		if !stops {
			m.Lines[i].Conn, _ = server.Tick(m.Lines[i].Conn, m.Rules, m.now)
		}
	}
	m.Stopped = m.Stopped || stops
	for _, s := range slotsOf(m.Config) {
		m.run(m.slot(s[0], s[1], func(b api.Batch, r api.BatchRules) (api.Batch, []api.Data, api.Errno) {
			if stops {
				return batch.Flush(b, r)
			}
			return batch.Tick(b, r, m.now)
		})...)
	}
	return api.Out{}
}

func (m *model) exporter(x api.Move) api.Out {
	r := m.exportRules(x.Exporter)
	e := m.Exporters[x.Exporter]
	var out api.Out
	if x.Kind == api.MoveSend {
		e, out.N, out.Text, out.Why = export.Send(e, r, m.now)
	} else {
		e, out.Why = export.Reply(e, r, x.Seq, x.Status, x.Text, m.now)
	}
	m.Exporters[x.Exporter] = e
	return out
}

func (m *model) crash(keeps [][]int) api.Out {
	m.Lines = nil
	for i := range m.Slots {
		m.Lost += uint64(pdata.Items(m.Slots[i].Batch.Held))
		m.Slots[i].Batch = api.Batch{}
	}
	keeps = append(slices.Clone(keeps), make([][]int, len(m.Exporters))...)
	for i := range m.Exporters {
		e, why := export.Crash(m.Exporters[i], m.exportRules(i), keeps[i])
		if why != api.OK {
			return api.Out{Why: why}
		}
		m.Exporters[i] = e
	}
	return api.Out{}
}
