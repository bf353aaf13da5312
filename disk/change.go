package disk

import (
	"slices"
	"strings"

	"penstock/api"
)

// never is a Fault, a Fuse that does not come.
const never = -1

// change is what a kind of steps refuses, what it does, and what it does to a disk whose power goes meanwhile.
type change struct {
	refuse func(*changed, api.DiskStep) api.Errno
	do     func(*changed, api.DiskStep)
	half   func(*changed, api.DiskStep)
}

func changeOf(k api.DiskKind) (change, bool) {
	nothing := func(*changed, api.DiskStep) {}
	switch k {
	case api.DiskCreate:
		return change{refuse: (*changed).refuseNew, do: (*changed).create, half: nothing}, true
	case api.DiskAppend:
		return change{refuse: (*changed).refuseMore, do: (*changed).add, half: (*changed).add}, true
	case api.DiskSync:
		return change{refuse: (*changed).refuseUnknown, do: (*changed).sync, half: nothing}, true
	case api.DiskCut:
		return change{refuse: (*changed).refuseSize, do: (*changed).cut, half: nothing}, true
	case api.DiskRemove:
		return change{refuse: (*changed).refuseUnknown, do: (*changed).remove, half: nothing}, true
	}
	return change{}, false
}

// changed is a disk that is being changed; its list of files is its own.
type changed struct{ api.Disk }

func begin(d api.Disk) *changed {
	d.Files = slices.Clone(d.Files)
	return &changed{d}
}

// run does c, if nothing stands against it.
func (x *changed) run(c change, s api.DiskStep) api.Errno {
	if x.Down {
		return api.ErrDown
	}
	if why := c.refuse(x, s); why != api.OK {
		return why
	}
	if comes(&x.Fault) {
		x.Fault = never
		return api.ErrDisk
	}
	if comes(&x.Fuse) {
		x.Down = true
		c.half(x, s)
		return api.ErrDown
	}
	c.do(x, s)
	return api.OK
}

// comes tells whether it is due, and counts it down, if it is to come later.
func comes(n *int) bool {
	if *n == 0 {
		return true
	}
	if *n > 0 {
		*n--
	}
	return false
}

func (x *changed) crash(keeps []int) {
	x.Down, x.Fuse, x.Fault = false, never, never
	for i := range x.Files {
		f := &x.Files[i]
		if i < len(keeps) && keeps[i] > 0 {
			f.Synced += min(keeps[i], len(f.Data)-f.Synced)
		}
		f.Data = f.Data[:f.Synced]
	}
}

// find is where the file of that name is, or would be.
func (x *changed) find(name string) (int, bool) {
	return slices.BinarySearchFunc(x.Files, name, func(f api.File, name string) int { return strings.Compare(f.Name, name) })
}

// file is nil, if there is none of that name.
func (x *changed) file(name string) *api.File {
	at, is := x.find(name)
	if !is {
		return nil
	}
	return &x.Files[at]
}

func (x *changed) refuseNew(s api.DiskStep) api.Errno {
	switch {
	case !isName(s.Name):
		return api.ErrLong
	case x.file(s.Name) != nil:
		return api.ErrState
	case len(x.Files) == api.MaxFiles:
		return api.ErrFull
	}
	return api.OK
}

func (x *changed) refuseUnknown(s api.DiskStep) api.Errno {
	if x.file(s.Name) == nil {
		return api.ErrUnknown
	}
	return api.OK
}

func (x *changed) refuseMore(s api.DiskStep) api.Errno {
	f := x.file(s.Name)
	switch {
	case f == nil:
		return api.ErrUnknown
	case len(s.Data) > api.MaxFile-len(f.Data):
		return api.ErrFull
	}
	return api.OK
}

func (x *changed) refuseSize(s api.DiskStep) api.Errno {
	f := x.file(s.Name)
	switch {
	case f == nil:
		return api.ErrUnknown
	case s.Size < 0 || s.Size > len(f.Data):
		return api.ErrRange
	}
	return api.OK
}

func (x *changed) create(s api.DiskStep) {
	at, _ := x.find(s.Name)
	x.put(at, at, api.File{Name: s.Name})
}

func (x *changed) remove(s api.DiskStep) {
	at, _ := x.find(s.Name)
	x.put(at, at+1)
}

// put puts files in the place of those from at up to end.
func (x *changed) put(at, end int, files ...api.File) {
	ahead := x.Files[:at:at] // without room, so that those behind are not written over
	x.Files = append(append(ahead, files...), x.Files[end:]...)
}

func (x *changed) add(s api.DiskStep) {
	x.file(s.Name).Data += s.Data
}

func (x *changed) sync(s api.DiskStep) {
	f := x.file(s.Name)
	f.Synced = len(f.Data)
}

func (x *changed) cut(s api.DiskStep) {
	f := x.file(s.Name)
	f.Data, f.Synced = f.Data[:s.Size], s.Size
}

func isName(s string) bool {
	return s != "" && len(s) <= api.MaxText
}

func isFile(f api.File) bool {
	return isName(f.Name) && len(f.Data) <= api.MaxFile && f.Synced >= 0 && f.Synced <= len(f.Data)
}

// checkUp tells why d may not be asked.
func checkUp(d api.Disk) api.Errno {
	if why := Check(d); why != api.OK {
		return why
	}
	if d.Down {
		return api.ErrDown
	}
	return api.OK
}
