package graph

import (
	"slices"

	"penstock/api"
	"penstock/conf"
	"penstock/fail"
)

// checked is the plan of c; it panics with the error, if c is not right.
func checked(c api.Config) plan {
	checkMany(c)
	checkComps(c)
	checkPipes(c)
	p := planned(c)
	p.checkConns(c)
	fail.Unless(len(p.order()) == len(c.Pipes), api.ErrCycle)
	for pipe := range c.Pipes {
		p.ways(pipe) // which panics, if they are too many
	}
	return p
}

func checkMany(c api.Config) {
	for _, n := range []int{len(c.Receivers), len(c.Procs), len(c.Conns), len(c.Exporters), len(c.Pipes)} {
		fail.Unless(n <= api.MaxComps, api.ErrMany)
	}
}

func checkComps(c api.Config) {
	ends := slices.Concat(c.Receivers, c.Conns, c.Exporters)
	names(ends, compName)
	names(c.Procs, compName)
	names(c.Pipes, func(p api.Pipe) string { return p.Name })
	for _, x := range ends {
		fail.Unless(x.Kind == "", api.ErrConf)
		fail.On(conf.Check(x.Node))
	}
	for _, x := range c.Procs {
		fail.Unless(isProc(x.Kind), api.ErrConf)
		fail.On(conf.Check(x.Node))
	}
}

func checkPipes(c api.Config) {
	sources := names(slices.Concat(c.Receivers, c.Conns), compName)
	procs := names(c.Procs, compName)
	sinks := names(slices.Concat(c.Exporters, c.Conns), compName)
	for _, p := range c.Pipes {
		fail.Unless(p.Signal > api.SignalNone && p.Signal < api.SignalCount, api.ErrType)
		checkEnds(p)
		checkKnown(p.Receivers, sources)
		checkKnown(p.Procs, procs)
		checkKnown(p.Exporters, sinks)
		for _, l := range [][]string{p.Receivers, p.Procs, p.Exporters} {
			names(l, func(name string) string { return name })
		}
	}
}

func checkEnds(p api.Pipe) {
	fail.Unless(len(p.Receivers) > 0 && len(p.Exporters) > 0, api.ErrConf)
}

func checkKnown(l []string, known map[string]int) {
	for _, name := range l {
		_, is := known[name]
		fail.Unless(is, api.ErrUnknown)
	}
}

// names is where in l each name stands; it panics with ErrConf, if one is there twice.
func names[T any](l []T, name func(T) string) map[string]int {
	out := map[string]int{}
	for i, x := range l {
		_, is := out[name(x)]
		fail.Unless(!is, api.ErrConf)
		out[name(x)] = i
	}
	return out
}

func compName(x api.Comp) string { return x.Name }
