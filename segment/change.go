package segment

import (
	"slices"

	"penstock/api"
	"penstock/disk"
)

// changed is a log that is being changed; its disk's list is its own.
type changed struct{ api.Log }

func begin(l api.Log) *changed {
	l.Disk.Files = slices.Clone(l.Disk.Files)
	return &changed{l}
}

// change does what is handed in with l, if that may be changed.
func change(l api.Log, do func(*changed) api.Errno) (api.Log, api.Errno) {
	if why := Check(l); why != api.OK {
		return api.Log{}, why
	}
	x := begin(l)
	if x.Broken {
		return x.Log, api.ErrState
	}
	why := do(x)
	return x.Log, why
}

// do does one step with the disk behind the other, up to the first one that fails, which breaks the log.
func (x *changed) do(steps ...api.DiskStep) api.Errno {
	for _, s := range steps {
		var why api.Errno
		x.Disk, why = disk.Do(x.Disk, s)
		if why != api.OK {
			x.Broken = true
			return why
		}
	}
	return api.OK
}

func (x *changed) add(data string) api.Errno {
	s := frame(api.Record{Seq: x.Next, Data: data})
	if !x.hasRoom(len(s)) {
		if why := x.do(api.DiskStep{Kind: api.DiskCreate, Name: name(x.Next)}); why != api.OK {
			return why
		}
	}
	last, _ := x.last()
	why := x.do(
		api.DiskStep{Kind: api.DiskAppend, Name: last.Name, Data: s},
		api.DiskStep{Kind: api.DiskSync, Name: last.Name},
	)
	if why == api.OK {
		x.Next++
	}
	return why
}

// hasRoom tells whether there is a last file, and so many bytes more may stand in it.
func (x *changed) hasRoom(size int) bool {
	f, is := x.last()
	return is && len(f.Data) < x.Size && len(f.Data)+size <= api.MaxFile
}

func (x *changed) last() (file, bool) {
	l := files(x.Disk)
	if len(l) == 0 {
		return file{}, false
	}
	return l[len(l)-1], true
}

func (x *changed) drop(seq uint64) api.Errno {
	l := files(x.Disk)
	var steps []api.DiskStep
	for len(l) > 1 && l[1].number <= seq {
		steps = append(steps, removal(l[0]))
		l = l[1:]
	}
	if why := x.do(steps...); why != api.OK {
		return why
	}
	if len(l) > 0 {
		x.From = l[0].number
	}
	return api.OK
}

func removal(f file) api.DiskStep {
	return api.DiskStep{Kind: api.DiskRemove, Name: f.Name}
}
