package graph

import (
	"slices"

	"penstock/api"
	"penstock/fail"
)

// step is to where data of a pipeline come next.
type step struct{ pipes, exporters []int }

// plan is a config without names: what stands in its lists are numbers.
type plan struct {
	givers    [][]int // of each connector the pipelines that export to it
	takers    [][]int // and those that receive from it
	after     []step  // of each pipeline
	exporters int     // how many there are
}

// planned is the plan of a config of which the components and the pipelines are right.
func planned(c api.Config) plan {
	p := plan{
		givers:    users(c, func(x api.Pipe) []string { return x.Exporters }),
		takers:    users(c, func(x api.Pipe) []string { return x.Receivers }),
		exporters: len(c.Exporters),
	}
	conns, exporters := names(c.Conns, compName), names(c.Exporters, compName)
	for _, x := range c.Pipes {
		var s step
		for _, name := range x.Exporters {
			if i, is := exporters[name]; is {
				s.exporters = append(s.exporters, i)
			} else {
				s.pipes = append(s.pipes, p.takers[conns[name]]...)
			}
		}
		p.after = append(p.after, s)
	}
	return p
}

// users is, of each connector, the pipelines that have its name in a list, rising.
func users(c api.Config, list func(api.Pipe) []string) [][]int {
	conns := names(c.Conns, compName)
	out := make([][]int, len(c.Conns))
	for pipe, x := range c.Pipes {
		for _, name := range list(x) {
			if i, is := conns[name]; is {
				out[i] = append(out[i], pipe)
			}
		}
	}
	return out
}

func (p plan) checkConns(c api.Config) {
	for i, givers := range p.givers {
		takers := p.takers[i]
		fail.Unless(len(givers) > 0 && len(takers) > 0, api.ErrConf)
		for _, pipe := range slices.Concat(givers, takers) {
			fail.Unless(c.Pipes[pipe].Signal == c.Pipes[givers[0]].Signal, api.ErrType)
		}
	}
}

func (p plan) checkPipe(pipe int) {
	fail.Unless(pipe >= 0 && pipe < len(p.after), api.ErrRange)
}

// order leaves out what comes behind itself, and what comes behind that.
func (p plan) order() []int {
	ahead := make([]int, len(p.after)) // how many steps to each are from what is not in the order yet
	for _, s := range p.after {
		for _, pipe := range s.pipes {
			ahead[pipe]++
		}
	}
	var out []int
	for least := slices.Index(ahead, 0); least >= 0; least = slices.Index(ahead, 0) {
		out = append(out, least)
		ahead[least] = -1
		for _, pipe := range p.after[least].pipes {
			ahead[pipe]--
		}
	}
	return out
}

// ways panics with ErrMany, as soon as there are too many; that is soon, since each pipeline of a config without a ring leads to an exporter.
func (p plan) ways(pipe int) []uint64 {
	out, all := make([]uint64, p.exporters), 0
	var count func(int)
	count = func(pipe int) {
		s := p.after[pipe]
		all += len(s.exporters)
		fail.Unless(all <= api.MaxWays, api.ErrMany)
		for _, i := range s.exporters {
			out[i]++
		}
		for _, next := range s.pipes {
			count(next)
		}
	}
	count(pipe)
	return out
}
