package export

import (
	"strconv"

	"penstock/api"
	"penstock/conf"
	"penstock/fail"
	"penstock/retry"
)

const (
	mostConsumers = 9
	mostTries     = 1 << 30
)

// someRules hold, where a node says none.
func someRules() api.ExportRules {
	return api.ExportRules{
		Most:      8,
		File:      4096,
		Consumers: 1,
		Retry:     api.RetryRules{First: 100, Most: 1000, Total: 10000},
	}
}

// read is the rules of a right node.
func read(n api.Node) api.ExportRules {
	r := someRules()
	readers := map[string]func(string){
		"queue":     func(s string) { r.Most = number(s, 4) },
		"file":      func(s string) { r.File = fileSize(s) },
		"consumers": func(s string) { r.Consumers = number(s, 1) },
		"first":     func(s string) { r.Retry.First = millis(s) },
		"most":      func(s string) { r.Retry.Most = millis(s) },
		"total":     func(s string) { r.Retry.Total = millis(s) },
	}
	for _, k := range n.Keys {
		take, is := readers[k.Key]
		fail.Unless(is && k.Node.Kind == api.NodeText, api.ErrConf)
		take(k.Node.Text)
	}
	fail.Unless(isRules(r), api.ErrRange) // behind all that is ErrConf
	return r
}

// number is that of one digit to so many.
func number(s string, digits int) int {
	n, fault := strconv.ParseUint(s, 10, 64)
	fail.Unless(fault == nil && len(s) <= digits, api.ErrConf)
	return int(n)
}

func fileSize(s string) int {
	n, why := conf.Bytes(s)
	fail.On(why)
	return int(min(n, api.MaxFile+1)) // more than that is too much all the same, and may be no int
}

func millis(s string) uint64 {
	n, why := conf.Millis(s)
	fail.On(why)
	return n
}

func isRules(r api.ExportRules) bool {
	_, why := retry.Wait(r.Retry, 0)
	return r.Most >= 1 && r.Most <= api.MaxItems && r.File >= 1 && r.File <= api.MaxFile && r.Consumers >= 1 && r.Consumers <= mostConsumers && why == api.OK
}

// areOf tells whether the flights, in order, are those of entries that are handed out.
func areOf(entries []api.Entry, l []api.Flight) bool {
	for i, f := range l {
		at, is := find(entries, f.Seq)
		if !is || i > 0 && l[i-1].Seq >= f.Seq || !isOf(entries[at], f) {
			return false
		}
	}
	return true
}

func isOf(e api.Entry, f api.Flight) bool {
	return e.Leased && f.Items == items(e.Data) && f.Retry.Tries >= 0 && f.Retry.Tries <= mostTries
}
