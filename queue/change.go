package queue

import (
	"slices"

	"penstock/api"
	"penstock/fail"
	"penstock/segment"
)

// changed is a queue that is being changed; its lists are its own. Its methods panic with an error's number, all that was changed till then being so.
type changed struct{ api.Queue }

func begin(q api.Queue) *changed {
	q.Log.Disk.Files = slices.Clone(q.Log.Disk.Files)
	q.Entries = slices.Clone(q.Entries)
	return &changed{q}
}

// change does what is handed in with q, if that may be changed.
func change(q api.Queue, do func(*changed)) (api.Queue, api.Errno) {
	if why := Check(q); why != api.OK {
		return api.Queue{}, why
	}
	x := begin(q)
	why := fail.Caught(func() {
		fail.Unless(!x.Log.Broken, api.ErrState)
		do(x)
	})
	return x.Queue, why
}

func (x *changed) put(data string) uint64 {
	fail.Unless(len(x.Entries) < x.Most, api.ErrFull)
	fail.Unless(len(data) <= mostData, api.ErrLong)
	seq := x.Log.Next
	x.write(putSign + data)
	x.Entries = append(x.Entries, api.Entry{Seq: seq, Data: data})
	return seq
}

func (x *changed) lease() api.Entry {
	at := x.find(api.ErrUnknown, func(e api.Entry) bool { return !e.Leased })
	x.Entries[at].Leased = true
	return x.Entries[at]
}

func (x *changed) release(seq uint64) {
	x.Entries[x.leased(seq)].Leased = false
}

func (x *changed) ack(seq uint64) {
	at := x.leased(seq)
	x.write(ack(seq))
	x.Entries = slices.Delete(x.Entries, at, at+1)
	x.drop(x.first())
}

func (x *changed) leased(seq uint64) int {
	return x.find(api.ErrLease, func(e api.Entry) bool { return e.Leased && e.Seq == seq })
}

// find is where the first entry is that is so; the error is told, if there is none.
func (x *changed) find(why api.Errno, is func(api.Entry) bool) int {
	at := slices.IndexFunc(x.Entries, is)
	fail.Unless(at >= 0, why)
	return at
}

// first is the number from which on records are needed.
func (x *changed) first() uint64 {
	if len(x.Entries) == 0 {
		return x.Log.Next
	}
	return x.Entries[0].Seq
}

func (x *changed) write(record string) {
	var why api.Errno
	x.Log, why = segment.Append(x.Log, record)
	fail.On(why)
}

func (x *changed) drop(seq uint64) {
	var why api.Errno
	x.Log, why = segment.Drop(x.Log, seq)
	fail.On(why)
}
