package disk_test

import (
	"maps"
	"math/rand/v2"
	"slices"
	"strconv"
	"strings"
	"testing"

	"penstock/api"
	"penstock/disk"
)

// file is one of which so many bytes are safe.
func file(name, data string, synced int) api.File {
	return api.File{Name: name, Data: data, Synced: synced}
}

// of is a disk that never fails.
func of(files ...api.File) api.Disk { return api.Disk{Files: files, Fuse: -1, Fault: -1} }

// three is what most tests begin with.
func three() api.Disk {
	return of(file("b", "data", 2), file("d", "", 0), file("f", "xyz", 3))
}

// many is so many empty files.
func many(n int) []api.File {
	var l []api.File
	for i := range n {
		l = append(l, file(string(rune('A'+i)), "", 0))
	}
	return l
}

func create(name string) api.DiskStep { return api.DiskStep{Kind: api.DiskCreate, Name: name} }
func add(name, data string) api.DiskStep {
	return api.DiskStep{Kind: api.DiskAppend, Name: name, Data: data}
}
func sync(name string) api.DiskStep { return api.DiskStep{Kind: api.DiskSync, Name: name} }
func cut(name string, size int) api.DiskStep {
	return api.DiskStep{Kind: api.DiskCut, Name: name, Size: size}
}
func remove(name string) api.DiskStep { return api.DiskStep{Kind: api.DiskRemove, Name: name} }

// call is the call of its own that s stands for.
func call(d api.Disk, s api.DiskStep) (api.Disk, api.Errno) {
	switch s.Kind {
	case api.DiskCreate:
		return disk.Create(d, s.Name)
	case api.DiskAppend:
		return disk.Append(d, s.Name, s.Data)
	case api.DiskSync:
		return disk.Sync(d, s.Name)
	case api.DiskCut:
		return disk.Cut(d, s.Name, s.Size)
	case api.DiskRemove:
		return disk.Remove(d, s.Name)
	}
	return disk.Do(d, s)
}

func twin(d api.Disk) api.Disk {
	d.Files = slices.Clone(d.Files)
	return d
}

func same(a, b api.Disk) bool {
	return slices.Equal(a.Files, b.Files) && a.Down == b.Down && a.Fuse == b.Fuse && a.Fault == b.Fault
}

func brief(s string) string {
	if len(s) > 40 {
		return strconv.Quote(s[:40]) + ".. of " + strconv.Itoa(len(s))
	}
	return strconv.Quote(s)
}

func shown(d api.Disk) string {
	var l []string
	for _, f := range d.Files[:min(len(d.Files), 8)] {
		l = append(l, brief(f.Name)+" "+brief(f.Data)+" "+strconv.Itoa(f.Synced))
	}
	if len(d.Files) > len(l) {
		l = append(l, ".. of "+strconv.Itoa(len(d.Files)))
	}
	return "[" + strings.Join(l, ", ") + "] Down " + strconv.FormatBool(d.Down) + ", Fuse " + strconv.Itoa(d.Fuse) + ", Fault " + strconv.Itoa(d.Fault)
}

func shownStep(s api.DiskStep) string {
	kinds := []string{"none", "Create", "Append", "Sync", "Cut", "Remove"}
	kind := strconv.Itoa(int(s.Kind))
	if int(s.Kind) < len(kinds) {
		kind = kinds[s.Kind]
	}
	return kind + " " + brief(s.Name) + " " + brief(s.Data) + " " + strconv.Itoa(s.Size)
}

// checkStep holds what s does with d against what is wanted: by the call of its own, and by Do, which are handed a list with room.
func checkStep(t *testing.T, d api.Disk, s api.DiskStep, want api.Disk, wantWhy api.Errno) {
	t.Helper()
	for i, do := range []func(api.Disk, api.DiskStep) (api.Disk, api.Errno){call, disk.Do} {
		given := d
		given.Files = append(make([]api.File, 0, len(d.Files)+i*3), d.Files...)
		got, why := do(given, s)
		if why != wantWhy || !same(got, want) {
			t.Errorf("%s of %s: error %d, %s\nwant %d, %s", shownStep(s), shown(d), why, shown(got), wantWhy, shown(want))
		}
		if !slices.Equal(given.Files, d.Files) {
			t.Errorf("%s changes what is handed in: %s to %s", shownStep(s), shown(d), shown(given))
		}
	}
}

// done is a step with three, and the files behind it.
type done struct {
	step api.DiskStep
	want []api.File
}

func dones() []done {
	b, d, f := file("b", "data", 2), file("d", "", 0), file("f", "xyz", 3)
	return []done{
		{create("a"), []api.File{file("a", "", 0), b, d, f}},
		{create("c"), []api.File{b, file("c", "", 0), d, f}},
		{create("bb"), []api.File{b, file("bb", "", 0), d, f}},
		{create("g"), []api.File{b, d, f, file("g", "", 0)}},
		{create("\x00"), []api.File{file("\x00", "", 0), b, d, f}},
		{create("\xff/ .."), []api.File{b, d, f, file("\xff/ ..", "", 0)}},
		{add("b", "more\x00\xff"), []api.File{file("b", "datamore\x00\xff", 2), d, f}},
		{add("b", ""), []api.File{b, d, f}},
		{add("d", "x"), []api.File{b, file("d", "x", 0), f}},
		{add("f", "x"), []api.File{b, d, file("f", "xyzx", 3)}},
		{sync("b"), []api.File{file("b", "data", 4), d, f}},
		{sync("d"), []api.File{b, d, f}},
		{sync("f"), []api.File{b, d, f}},
		{cut("b", 0), []api.File{file("b", "", 0), d, f}},
		{cut("b", 1), []api.File{file("b", "d", 1), d, f}},
		{cut("b", 2), []api.File{file("b", "da", 2), d, f}},
		{cut("b", 3), []api.File{file("b", "dat", 3), d, f}},
		{cut("b", 4), []api.File{file("b", "data", 4), d, f}},
		{cut("d", 0), []api.File{b, d, f}},
		{cut("f", 2), []api.File{b, d, file("f", "xy", 2)}},
		{remove("b"), []api.File{d, f}},
		{remove("d"), []api.File{b, f}},
		{remove("f"), []api.File{b, d}},
	}
}

// half is what there is of a step with three when the power goes meanwhile: the bytes of an Append alone.
func half(x done) []api.File {
	if x.step.Kind == api.DiskAppend {
		return x.want
	}
	return three().Files
}

// wrongs are disks that are not right.
func wrongs() map[string]api.Disk {
	long := strings.Repeat("x", api.MaxText+1)
	great := strings.Repeat("x", api.MaxFile+1)
	l := map[string]api.Disk{
		"too many files":     of(many(api.MaxFiles + 1)...),
		"a name twice":       of(file("a", "", 0), file("b", "", 0), file("b", "", 0)),
		"names that fall":    of(file("b", "", 0), file("a", "", 0)),
		"the last one falls": of(file("a", "", 0), file("c", "", 0), file("b", "", 0)),
		"a prefix behind":    of(file("aa", "", 0), file("a", "", 0)),
		"as runes":           of(file("\xff", "", 0), file("é", "", 0)),
	}
	for name, f := range map[string]api.File{"no name": file("", "", 0), "a long name": file(long, "", 0), "a great file": file("a", great, 0), "below 0": file("a", "x", -1), "above the length": file("a", "x", 2), "above none": file("a", "", 1)} {
		l[name] = of(f)
		behind := f
		if f.Name == "a" {
			behind.Name = "z"
		}
		l[name+", ahead"] = of(f, file("z", "", 0))
		l[name+", behind"] = of(file("b", "", 0), behind)
	}
	for _, name := range slices.Sorted(maps.Keys(l)) { // whatever else they are
		d := l[name]
		d.Down, d.Fuse, d.Fault = true, 0, 0
		l[name+", down"] = d
	}
	return l
}

func pick[T any](r *rand.Rand, l ...T) T { return l[r.IntN(len(l))] }

func someName(r *rand.Rand) string { return pick(r, "a", "b", "c", "d", "e") }

// someStep is often done, often refused.
func someStep(r *rand.Rand) api.DiskStep {
	s := api.DiskStep{Kind: api.DiskKind(1 + r.IntN(5)), Name: someName(r), Data: strings.Repeat(pick(r, "x", "y", "z"), r.IntN(6)), Size: r.IntN(9) - 1}
	switch r.IntN(40) {
	case 0:
		s.Kind = pick(r, api.DiskNone, api.DiskCount, 255)
	case 1:
		s.Name = pick(r, "", strings.Repeat("n", api.MaxText+1))
	case 2:
		s.Size = pick(r, -1<<63, 1<<63-1)
	case 3:
		s.Data = strings.Repeat("d", api.MaxFile-r.IntN(3))
	}
	return s
}

// model is a disk as the tests have it.
type model struct {
	data        map[string]string
	synced      map[string]int
	down        bool
	fuse, fault int
}

func modelOf(d api.Disk) *model {
	m := &model{data: map[string]string{}, synced: map[string]int{}, down: d.Down, fuse: d.Fuse, fault: d.Fault}
	for _, f := range d.Files {
		m.data[f.Name], m.synced[f.Name] = f.Data, f.Synced
	}
	return m
}

func (m *model) disk() api.Disk {
	d := api.Disk{Down: m.down, Fuse: m.fuse, Fault: m.fault}
	for _, name := range slices.Sorted(maps.Keys(m.data)) {
		d.Files = append(d.Files, file(name, m.data[name], m.synced[name]))
	}
	return d
}

func (m *model) refuses(s api.DiskStep) api.Errno {
	data, is := m.data[s.Name]
	if s.Kind == api.DiskCreate {
		if s.Name == "" || len(s.Name) > 4096 {
			return api.ErrLong
		}
		if is {
			return api.ErrState
		}
		if len(m.data) >= 64 {
			return api.ErrFull
		}
		return api.OK
	}
	if !is {
		return api.ErrUnknown
	}
	if s.Kind == api.DiskAppend && len(data)+len(s.Data) > 262144 {
		return api.ErrFull
	}
	if s.Kind == api.DiskCut && (s.Size < 0 || s.Size > len(data)) {
		return api.ErrRange
	}
	return api.OK
}

func (m *model) do(s api.DiskStep) api.Errno {
	if s.Kind < api.DiskCreate || s.Kind > api.DiskRemove {
		return api.ErrType
	}
	if m.down {
		return api.ErrDown
	}
	if why := m.refuses(s); why != api.OK {
		return why
	}
	if m.fault == 0 {
		m.fault = -1
		return api.ErrDisk
	}
	if m.fault > 0 {
		m.fault--
	}
	if m.fuse == 0 {
		m.down = true
		if s.Kind == api.DiskAppend {
			m.data[s.Name] += s.Data
		}
		return api.ErrDown
	}
	if m.fuse > 0 {
		m.fuse--
	}
	switch s.Kind {
	case api.DiskCreate:
		m.data[s.Name] = ""
	case api.DiskAppend:
		m.data[s.Name] += s.Data
	case api.DiskSync:
		m.synced[s.Name] = len(m.data[s.Name])
	case api.DiskCut:
		m.data[s.Name] = m.data[s.Name][:s.Size]
		m.synced[s.Name] = s.Size
	case api.DiskRemove:
		delete(m.data, s.Name)
		delete(m.synced, s.Name)
	}
	return api.OK
}
