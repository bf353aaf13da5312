package disk_test

import (
	"math"
	"math/rand/v2"
	"slices"
	"strings"
	"testing"

	"penstock/api"
	"penstock/disk"
)

func TestP91Check(t *testing.T) {
	long := strings.Repeat("x", api.MaxText)
	great := strings.Repeat("x", api.MaxFile)
	for name, d := range map[string]api.Disk{
		"nothing":         {},
		"an empty list":   {Files: []api.File{}},
		"three":           three(),
		"most files":      of(many(api.MaxFiles)...),
		"a long name":     of(file(long, "", 0)),
		"a great file":    of(file("a", great, 0), file("b", great, api.MaxFile)),
		"a prefix ahead":  of(file("a", "", 0), file("aa", "", 0), file("ab", "", 0)),
		"by bytes":        of(file("B", "", 0), file("a", "", 0), file("é", "", 0), file("\xff", "", 0)),
		"safe or not":     of(file("a", "xyz", 0), file("b", "xyz", 1), file("c", "xyz", 3)),
		"down":            {Files: three().Files, Down: true},
		"fuses":           {Files: three().Files, Fuse: math.MaxInt, Fault: math.MinInt},
		"faults":          {Files: three().Files, Fuse: math.MinInt, Fault: math.MaxInt},
		"down, and fuses": {Down: true, Fuse: 3, Fault: 3},
	} {
		if why := disk.Check(d); why != api.OK {
			t.Errorf("Check of %s: error %d", name, why)
		}
	}
	for name, d := range wrongs() {
		if why := disk.Check(d); why != api.ErrState {
			t.Errorf("Check of %s: error %d", name, why)
		}
	}
}

func TestP91Done(t *testing.T) {
	for _, x := range dones() {
		checkStep(t, three(), x.step, of(x.want...), api.OK)
	}
	long := strings.Repeat("n", api.MaxText)
	checkStep(t, api.Disk{Fuse: -1, Fault: -1}, create(long), of(file(long, "", 0)), api.OK)
	checkStep(t, of(many(api.MaxFiles-1)...), create("~~"), of(slices.Insert(many(api.MaxFiles-1), '~'-'A'+1, file("~~", "", 0))...), api.OK)
	checkStep(t, of(many(api.MaxFiles)...), remove("A"), of(many(api.MaxFiles)[1:]...), api.OK)
	great := strings.Repeat("x", api.MaxFile)
	checkStep(t, of(file("a", great[1:], 7)), add("a", "y"), of(file("a", great[1:]+"y", 7)), api.OK)
	checkStep(t, of(file("a", "", 0)), add("a", great), of(file("a", great, 0)), api.OK)
	checkStep(t, of(file("a", great, 0)), add("a", ""), of(file("a", great, 0)), api.OK)
	checkStep(t, of(file("a", great, 0)), sync("a"), of(file("a", great, api.MaxFile)), api.OK)
	checkStep(t, of(file("a", great, 0)), cut("a", api.MaxFile), of(file("a", great, api.MaxFile)), api.OK)
}

// refused is a step that a disk refuses.
type refused struct {
	disk api.Disk
	step api.DiskStep
	why  api.Errno
}

func refusals() []refused {
	long := strings.Repeat("n", api.MaxText+1)
	great := strings.Repeat("x", api.MaxFile)
	full, empty := of(many(api.MaxFiles)...), of()
	l := []refused{
		{three(), create(""), api.ErrLong},
		{three(), create(long), api.ErrLong},
		{full, create(""), api.ErrLong}, // and there is no room
		{full, create(long), api.ErrLong},
		{three(), create("b"), api.ErrState},
		{three(), create("f"), api.ErrState},
		{full, create("A"), api.ErrState}, // and there is no room
		{full, create("@"), api.ErrFull},
		{full, create("AA"), api.ErrFull},
		{full, create("\xff"), api.ErrFull},
		{three(), add("c", great+"x"), api.ErrUnknown}, // and it would be too much
		{of(file("a", "x", 1)), add("a", great), api.ErrFull},
		{of(file("a", great, 1)), add("a", "x"), api.ErrFull},
		{of(file("a", "", 0)), add("a", great+"x"), api.ErrFull},
		{three(), cut("c", -1), api.ErrUnknown}, // and there is no such size
		{three(), cut("b", -1), api.ErrRange},
		{three(), cut("b", 5), api.ErrRange},
		{three(), cut("d", 1), api.ErrRange},
		{three(), cut("b", math.MinInt), api.ErrRange},
		{three(), cut("b", math.MaxInt), api.ErrRange},
	}
	for _, name := range []string{"a", "c", "g", "bb", "B", "", long} {
		for _, s := range []api.DiskStep{add(name, "x"), add(name, ""), sync(name), cut(name, 0), remove(name)} {
			l = append(l, refused{three(), s, api.ErrUnknown}, refused{empty, s, api.ErrUnknown})
		}
	}
	return l
}

func TestP91Refused(t *testing.T) {
	for _, x := range refusals() {
		for _, fuse := range []int{-1, 0, 1} { // what is refused does not come so far
			for _, fault := range []int{-1, 0, 1} {
				d := x.disk
				d.Fuse, d.Fault = fuse, fault
				checkStep(t, d, x.step, d, x.why)
			}
		}
	}
}

func TestP91NotRight(t *testing.T) {
	for _, d := range wrongs() {
		for _, x := range dones() {
			checkStep(t, d, x.step, api.Disk{}, api.ErrState)
		}
		for _, k := range []api.DiskKind{api.DiskNone, api.DiskCount} {
			checkStep(t, d, api.DiskStep{Kind: k}, api.Disk{}, api.ErrState)
		}
	}
}

func TestP91Down(t *testing.T) {
	for _, fuse := range []int{-1, 0, 1} {
		for _, fault := range []int{-1, 0, 1} {
			for _, x := range dones() {
				d := api.Disk{Files: three().Files, Down: true, Fuse: fuse, Fault: fault}
				checkStep(t, d, x.step, d, api.ErrDown)
			}
			for _, x := range refusals() {
				d := x.disk
				d.Down, d.Fuse, d.Fault = true, fuse, fault
				checkStep(t, d, x.step, d, api.ErrDown)
			}
		}
	}
}

func TestP92FaultAndFuse(t *testing.T) {
	less := func(n int) int {
		if n > 0 {
			return n - 1
		}
		return n
	}
	counts := []int{math.MinInt, -2, -1, 0, 1, 2, math.MaxInt}
	for _, x := range dones() {
		for _, fuse := range counts {
			for _, fault := range counts {
				d := api.Disk{Files: three().Files, Fuse: fuse, Fault: fault}
				switch {
				case fault == 0:
					checkStep(t, d, x.step, api.Disk{Files: three().Files, Fuse: fuse, Fault: -1}, api.ErrDisk)
				case fuse == 0:
					checkStep(t, d, x.step, api.Disk{Files: half(x), Down: true, Fuse: 0, Fault: less(fault)}, api.ErrDown)
				default:
					checkStep(t, d, x.step, api.Disk{Files: x.want, Fuse: less(fuse), Fault: less(fault)}, api.OK)
				}
			}
		}
	}
}

// TestP92CountedDown has a fault at the third change that comes so far, and the power go at the fifth one, the one with the fault not being counted.
func TestP92CountedDown(t *testing.T) {
	d := api.Disk{Fault: 2, Fuse: 4}
	var got []api.Errno
	for _, s := range []api.DiskStep{create("a"), create("a"), sync("b"), add("a", "x"), cut("a", 2), sync("a"), sync("a"), add("a", "y"), {}, sync("a"), add("a", "z"), add("a", "z")} {
		var why api.Errno
		d, why = disk.Do(d, s)
		got = append(got, why)
	}
	want := []api.Errno{api.OK, api.ErrState, api.ErrUnknown, api.OK, api.ErrRange, api.ErrDisk, api.OK, api.OK, api.ErrType, api.ErrDown, api.ErrDown, api.ErrDown}
	if !slices.Equal(got, want) {
		t.Errorf("errors %v, want %v", got, want)
	}
	if left := (api.Disk{Files: []api.File{file("a", "xy", 1)}, Down: true, Fuse: 0, Fault: -1}); !same(d, left) {
		t.Errorf("left %s, want %s", shown(d), shown(left))
	}
}

func TestP92DoOfNone(t *testing.T) {
	for _, k := range []api.DiskKind{api.DiskNone, api.DiskCount, api.DiskCount + 1, 255} {
		s := api.DiskStep{Kind: k, Name: "b", Data: "x", Size: 1}
		for _, fuse := range []int{-1, 0, 1} {
			for _, fault := range []int{-1, 0, 1} {
				for _, down := range []bool{false, true} {
					d := api.Disk{Files: three().Files, Down: down, Fuse: fuse, Fault: fault}
					checkStep(t, d, s, d, api.ErrType)
				}
			}
		}
	}
}

// TestP92DoOfEach has steps with the fields of other kinds, too, which are no matter.
func TestP92DoOfEach(t *testing.T) {
	for _, x := range dones() {
		s := x.step
		if s.Kind != api.DiskAppend {
			s.Data = strings.Repeat("x", api.MaxFile+1)
		}
		if s.Kind != api.DiskCut {
			s.Size = -1
		}
		checkStep(t, three(), s, of(x.want...), api.OK)
	}
}

// TestP91AsTheModel does anything with disks, and holds them against the model.
func TestP91AsTheModel(t *testing.T) {
	r := rand.New(rand.NewPCG(9, 1))
	for range 600 {
		d := api.Disk{Fuse: r.IntN(30) - 10, Fault: r.IntN(20) - 10}
		m := modelOf(d)
		for range 30 {
			s := someStep(r)
			wantWhy := m.do(s)
			got, why := disk.Do(d, s)
			if why != wantWhy || !same(got, m.disk()) || disk.Check(got) != api.OK {
				t.Fatalf("%s of %s: error %d, %s\nwant %d, %s", shownStep(s), shown(d), why, shown(got), wantWhy, shown(m.disk()))
			}
			d = got
			if d.Down && r.IntN(4) == 0 {
				d, _ = disk.Crash(d, []int{r.IntN(9), r.IntN(9), r.IntN(9)})
				d.Fuse = r.IntN(20) - 5
				m = modelOf(d)
			}
		}
	}
}
