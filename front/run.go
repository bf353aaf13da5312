package front

import (
	"strings"

	"penstock/api"
	"penstock/collect"
	"penstock/graph"
)

const (
	someIdle  = 30000
	someLimit = 10000
)

// errorNames are those of the errors, from api.OK on.
const errorNames = "ok nil range many long type state unknown full varint wire depth utf http more conf cycle down disk lease"

// name is an error's.
func name(why api.Errno) string {
	l := strings.Fields(errorNames)
	if why < 0 || int(why) >= len(l) {
		return "?"
	}
	return l[why]
}

// open is the collector of a config's node, on disks that never fail.
func open(n api.Node) (api.Collector, api.Errno) {
	c, why := graph.Read(n)
	if why != api.OK {
		return api.Collector{}, why
	}
	disks := make([]api.Disk, len(c.Exporters))
	for i := range disks {
		disks[i] = api.Disk{Fuse: -1, Fault: -1}
	}
	return collect.Open(c, api.Rules{MaxBody: api.MaxBytes, Idle: someIdle}, someLimit, disks)
}

// told is what comes of each move, and what is held in the end.
func told(c api.Collector, l []api.Move) string {
	var w strings.Builder
	for _, m := range l {
		var out api.Out
		c, out, _ = collect.Do(c, m) // it is right, whatever happens
		writeLine(&w, name(out.Why), written(out.N), Word(out.Text))
	}
	n, _ := collect.Held(c)
	writeLine(&w, "held", written(n))
	return w.String()
}

func writeLine(w *strings.Builder, words ...string) {
	w.WriteString(strings.Join(words, " "))
	w.WriteString(lineEnd)
}
