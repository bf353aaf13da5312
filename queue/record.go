package queue

import (
	"slices"
	"strings"

	"penstock/api"
)

// What a record begins with.
const (
	putSign = "P"
	ackSign = "A"
)

const (
	numberSize = 8
	mostData   = api.MaxBytes - len(putSign)
)

// ack is the record that leaves out the put of that number.
func ack(seq uint64) string {
	b := []byte(ackSign)
	for i := range numberSize {
		b = append(b, byte(seq>>(8*i)))
	}
	return string(b)
}

// acked is the number of the put that a record leaves out, if it is such a one.
func acked(record string) (uint64, bool) {
	s, is := strings.CutPrefix(record, ackSign)
	if !is || len(s) != numberSize {
		return 0, false
	}
	seq := uint64(0)
	for i := range numberSize {
		seq |= uint64(s[i]) << (8 * i)
	}
	return seq, true
}

// entries are the puts of which no record behind them is an ack.
func entries(l []api.Record) []api.Entry {
	var found []api.Entry
	gone := map[uint64]struct{}{}
	for _, r := range slices.Backward(l) { // an ack ahead of its put is no matter
		if seq, is := acked(r.Data); is {
			gone[seq] = struct{}{}
		}
		data, is := strings.CutPrefix(r.Data, putSign)
		if _, out := gone[r.Seq]; is && !out {
			found = append(found, api.Entry{Seq: r.Seq, Data: data})
		}
	}
	slices.Reverse(found)
	return found
}

// unopened is the queue of a log that could not be opened.
func unopened(l api.Log, most int) api.Queue {
	if !l.Broken { // there is none
		return api.Queue{}
	}
	return api.Queue{Log: l, Most: most}
}

func isMost(n int) bool {
	return n >= 1 && n <= api.MaxItems
}

// areIn tells whether the entries may be some of a log.
func areIn(log api.Log, l []api.Entry) bool {
	if len(l) > api.MaxItems {
		return false
	}
	from := log.From
	for _, e := range l {
		if e.Seq < from || e.Seq >= log.Next || len(e.Data) > mostData {
			return false
		}
		from = e.Seq + 1 // their numbers rise
	}
	return true
}
