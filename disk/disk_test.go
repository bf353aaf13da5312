package disk_test

import (
	"math"
	"math/rand/v2"
	"runtime"
	"slices"
	"strings"
	"testing"

	"penstock/api"
	"penstock/disk"
)

func TestP93Read(t *testing.T) {
	d := of(file("a", "x\x00\xff", 1), file("aa", "", 0), file("b", "data", 4))
	for _, fuse := range []int{-1, 0, 1} { // which are no matter
		d.Fuse, d.Fault = fuse, fuse
		for name, want := range map[string]string{"a": "x\x00\xff", "aa": "", "b": "data"} {
			if s, why := disk.Read(d, name); s != want || why != api.OK {
				t.Errorf("Read of %q: %q, error %d", name, s, why)
			}
		}
		for _, name := range []string{"", "A", "ab", "c", "aaa", strings.Repeat("a", api.MaxText+1)} {
			if s, why := disk.Read(d, name); s != "" || why != api.ErrUnknown {
				t.Errorf("Read of %s: %q, error %d", brief(name), s, why)
			}
		}
	}
	d.Down = true
	for _, name := range []string{"a", "c", ""} {
		if s, why := disk.Read(d, name); s != "" || why != api.ErrDown {
			t.Errorf("Read of one that is down: %q, error %d", s, why)
		}
	}
	for what, d := range wrongs() {
		for _, name := range []string{"a", "?"} {
			if s, why := disk.Read(d, name); s != "" || why != api.ErrState {
				t.Errorf("Read of %s: %s, error %d", what, brief(s), why)
			}
		}
	}
}

func TestP93Names(t *testing.T) {
	for _, names := range [][]string{nil, {"a"}, {"B", "a", "aa", "b", "é", "\xff"}} {
		d := api.Disk{}
		for _, name := range names {
			d.Files = append(d.Files, file(name, "x", 1))
		}
		if l, why := disk.Names(d); !slices.Equal(l, names) || why != api.OK {
			t.Errorf("Names of %s: %q, error %d", shown(d), l, why)
		}
		d.Down = true
		if l, why := disk.Names(d); len(l) != 0 || why != api.ErrDown {
			t.Errorf("Names of %s: %q, error %d", shown(d), l, why)
		}
	}
	if l, why := disk.Names(of(many(api.MaxFiles)...)); len(l) != api.MaxFiles || why != api.OK {
		t.Errorf("Names of most files: %q, error %d", l, why)
	}
	for what, d := range wrongs() {
		if l, why := disk.Names(d); len(l) != 0 || why != api.ErrState {
			t.Errorf("Names of %s: %q, error %d", what, l, why)
		}
	}
}

func TestP93Crash(t *testing.T) {
	files := []api.File{file("a", "abcdef", 2), file("b", "", 0), file("c", "xyz", 3), file("d", "uv", 0)}
	for _, x := range []struct {
		keeps []int
		want  []string
	}{
		{nil, []string{"ab", "", "xyz", ""}},
		{[]int{}, []string{"ab", "", "xyz", ""}},
		{[]int{0, 0, 0, 0}, []string{"ab", "", "xyz", ""}},
		{[]int{1}, []string{"abc", "", "xyz", ""}},
		{[]int{3, 3, 3}, []string{"abcde", "", "xyz", ""}},
		{[]int{4, 0, 0, 2}, []string{"abcdef", "", "xyz", "uv"}},
		{[]int{5, 1, 1, 1}, []string{"abcdef", "", "xyz", "u"}},
		{[]int{-1, -1, -1, -1}, []string{"ab", "", "xyz", ""}},
		{[]int{math.MinInt, 0, 0, 1, 9}, []string{"ab", "", "xyz", "u"}},
		{[]int{math.MaxInt, math.MaxInt, math.MaxInt, math.MaxInt, math.MaxInt}, []string{"abcdef", "", "xyz", "uv"}},
		{[]int{0, 0, 0, 3}, []string{"ab", "", "xyz", "uv"}},
	} {
		want := of()
		for i, s := range x.want {
			want.Files = append(want.Files, file(files[i].Name, s, len(s)))
		}
		for _, down := range []bool{false, true} {
			for _, n := range []int{-3, -1, 0, 2} {
				d := api.Disk{Files: files, Down: down, Fuse: n, Fault: -n}
				if got, why := disk.Crash(d, x.keeps); why != api.OK || !same(got, want) {
					t.Errorf("Crash of %s keeping %v: error %d, %s", shown(d), x.keeps, why, shown(got))
				}
			}
		}
	}
	if got, why := disk.Crash(api.Disk{}, []int{1}); why != api.OK || !same(got, of()) {
		t.Errorf("Crash of nothing: error %d, %s", why, shown(got))
	}
	for name, d := range wrongs() {
		if got, why := disk.Crash(d, []int{1}); why != api.ErrState || !same(got, api.Disk{}) {
			t.Errorf("Crash of %s: error %d, %s", name, why, shown(got))
		}
	}
}

// answers is what answers a disk, by names.
func answers() map[string]func(api.Disk) api.Disk {
	l := map[string]func(api.Disk) api.Disk{
		"Crash":        func(d api.Disk) api.Disk { d, _ = disk.Crash(d, nil); return d },
		"Crash, kept":  func(d api.Disk) api.Disk { d, _ = disk.Crash(d, []int{9, 9, 9}); return d },
		"Do of none":   func(d api.Disk) api.Disk { d, _ = disk.Do(d, api.DiskStep{}); return d },
		"with a fault": func(d api.Disk) api.Disk { d.Fault = 0; d, _ = disk.Sync(d, "b"); return d },
		"with a fuse":  func(d api.Disk) api.Disk { d.Fuse = 0; d, _ = disk.Append(d, "b", "x"); return d },
		"down":         func(d api.Disk) api.Disk { d.Down = true; d, _ = disk.Append(d, "b", "x"); return d },
	}
	for _, x := range dones() {
		l[shownStep(x.step)] = func(d api.Disk) api.Disk { d, _ = disk.Do(d, x.step); return d }
	}
	for _, s := range []api.DiskStep{create("b"), create(""), add("x", ""), sync("x"), cut("b", -1), remove("x")} {
		l[shownStep(s)+", refused"] = func(d api.Disk) api.Disk { d, _ = disk.Do(d, s); return d }
	}
	return l
}

func spoil(d api.Disk) {
	clear(d.Files[:cap(d.Files)])
}

func TestP94NewMemory(t *testing.T) {
	for name, do := range answers() {
		for _, room := range []int{0, 1, 5} {
			d := three()
			d.Files = append(make([]api.File, 0, len(d.Files)+room), d.Files...)
			before := slices.Clone(d.Files[:cap(d.Files)])
			first, second := do(d), do(d)
			want := twin(second)
			spoil(first)
			if !slices.Equal(d.Files[:cap(d.Files)], before) {
				t.Errorf("%s: what was handed in is changed, or shares memory with the answer", name)
			}
			spoil(d)
			if !same(second, want) || len(second.Files) < 2 {
				t.Errorf("%s: what was handed in, or an earlier answer, is kept: %s", name, shown(second))
			}
		}
	}
}

func TestP94NewLists(t *testing.T) {
	d := three()
	one, _ := disk.Names(d)
	two, _ := disk.Names(d)
	clear(one[:cap(one)])
	if !slices.Equal(two, []string{"b", "d", "f"}) || !same(d, three()) {
		t.Errorf("Names share memory: %q, %s", two, shown(d))
	}
	keeps := []int{-1, 9, 9, 9}
	if _, why := disk.Crash(d, keeps[:3]); why != api.OK || !slices.Equal(keeps, []int{-1, 9, 9, 9}) {
		t.Errorf("Crash: keeps are %v, error %d", keeps, why)
	}
}

// TestP95Safe does anything with disks, and has the power go in between.
func TestP95Safe(t *testing.T) {
	r := rand.New(rand.NewPCG(9, 5))
	for range 800 {
		d := api.Disk{Fuse: r.IntN(40) - 10, Fault: r.IntN(20) - 10}
		safe, whole := map[string]string{}, map[string]string{}
		for range r.IntN(30) {
			s := someStep(r)
			var why api.Errno
			d, why = disk.Do(d, s)
			switch {
			case s.Kind == api.DiskAppend && (why == api.OK || why == api.ErrDown && len(whole[s.Name])+len(s.Data) == len(dataOf(d, s.Name))):
				whole[s.Name] += s.Data
			case why != api.OK:
			case s.Kind == api.DiskSync:
				safe[s.Name] = whole[s.Name]
			case s.Kind == api.DiskCut:
				whole[s.Name] = whole[s.Name][:s.Size]
				safe[s.Name] = whole[s.Name]
			case s.Kind == api.DiskRemove:
				delete(safe, s.Name)
				delete(whole, s.Name)
			}
		}
		left, why := disk.Crash(d, []int{r.IntN(20) - 3, r.IntN(20) - 3, r.IntN(20) - 3})
		if why != api.OK || len(left.Files) != len(d.Files) || disk.Check(left) != api.OK {
			t.Fatalf("Crash of %s: error %d, %s", shown(d), why, shown(left))
		}
		for _, f := range left.Files {
			if !strings.HasPrefix(f.Data, safe[f.Name]) || !strings.HasPrefix(whole[f.Name], f.Data) {
				t.Fatalf("%s: what was safe is %q, all is %q, left is %q", f.Name, safe[f.Name], whole[f.Name], f.Data)
			}
		}
	}
}

func dataOf(d api.Disk, name string) string {
	for _, f := range d.Files {
		if f.Name == name {
			return f.Data
		}
	}
	return ""
}

func TestP95Example(t *testing.T) {
	for keep, want := range []string{"xy", "xyz", "xyz"} {
		d := of()
		for _, s := range []api.DiskStep{create("a"), add("a", "xy"), sync("a"), add("a", "z")} {
			var why api.Errno
			if d, why = disk.Do(d, s); why != api.OK {
				t.Fatalf("%s: error %d", shownStep(s), why)
			}
		}
		d, why := disk.Crash(d, []int{keep})
		if s, whyRead := disk.Read(d, "a"); s != want || why != api.OK || whyRead != api.OK {
			t.Errorf("keeping %d: %q, errors %d, %d", keep, s, why, whyRead)
		}
	}
}

// TestP96Faults has each change fail, of disks that may be anything that is right.
func TestP96Faults(t *testing.T) {
	r := rand.New(rand.NewPCG(9, 6))
	for range 400 {
		d := of()
		for range r.IntN(20) {
			d, _ = disk.Do(d, someStep(r))
		}
		s := someStep(r)
		if _, why := disk.Do(d, s); why != api.OK {
			continue
		}
		d.Fault = 0
		got, why := disk.Do(d, s)
		if why != api.ErrDisk || !slices.Equal(got.Files, d.Files) || got.Down || got.Fault != -1 {
			t.Fatalf("%s of %s: error %d, %s", shownStep(s), shown(d), why, shown(got))
		}
		d.Fault, d.Fuse = -1, 0
		got, why = disk.Do(d, s)
		want := twin(d)
		for i := range want.Files {
			if f := &want.Files[i]; s.Kind == api.DiskAppend && f.Name == s.Name {
				f.Data += s.Data
			}
		}
		if why != api.ErrDown || !slices.Equal(got.Files, want.Files) || !got.Down || got.Fault != -1 {
			t.Fatalf("%s of %s: error %d, %s", shownStep(s), shown(d), why, shown(got))
		}
	}
}

func TestP97Apart(t *testing.T) {
	r := rand.New(rand.NewPCG(9, 7))
	for range 300 {
		d := api.Disk{Fuse: r.IntN(60) - 20, Fault: r.IntN(20) - 10}
		for range 20 {
			s := someStep(r)
			got, _ := disk.Do(d, s)
			others := func(d api.Disk) []api.File {
				return slices.DeleteFunc(slices.Clone(d.Files), func(f api.File) bool { return f.Name == s.Name })
			}
			if !slices.Equal(others(got), others(d)) {
				t.Fatalf("%s of %s changes others: %s", shownStep(s), shown(d), shown(got))
			}
			d = got
		}
	}
}

// someDisk is anything.
func someDisk(r *rand.Rand) api.Disk {
	d := api.Disk{Down: r.IntN(5) == 0, Fuse: r.IntN(9) - 3, Fault: r.IntN(9) - 3}
	for i := range r.IntN(5) {
		data := strings.Repeat("x", r.IntN(9))
		d.Files = append(d.Files, file(pick(r, string(rune('a'+i)), string(rune('a'+i)), someName(r), ""), data, r.IntN(12)-1))
	}
	return d
}

// TestP1AndP2Anything does anything with anything: what is not right is refused, and all else answers what is right.
func TestP1AndP2Anything(t *testing.T) {
	r := rand.New(rand.NewPCG(9, 9))
	for range 4000 {
		d, s := someDisk(r), someStep(r)
		before := disk.Check(d)
		got, why := disk.Do(d, s)
		left, whyCrash := disk.Crash(d, []int{r.Int() - r.Int(), r.IntN(5)})
		data, whyRead := disk.Read(d, s.Name)
		names, whyNames := disk.Names(d)
		if before == api.OK && (disk.Check(got) != api.OK || disk.Check(left) != api.OK || whyCrash != api.OK || whyRead == api.ErrState || whyNames == api.ErrState) {
			t.Fatalf("%s of %s: error %d, %s", shownStep(s), shown(d), why, shown(got))
		}
		if before != api.OK && (why != before || whyCrash != before || whyRead != before || whyNames != before || !same(got, api.Disk{}) || !same(left, api.Disk{}) || data != "" || len(names) != 0) {
			t.Fatalf("%s of %s, which is not right: error %d, %s", shownStep(s), shown(d), why, shown(got))
		}
	}
}

func TestP3AndP4AlwaysTheSame(t *testing.T) {
	before := runtime.NumGoroutine()
	for range 30 {
		for _, x := range dones() {
			checkStep(t, three(), x.step, of(x.want...), api.OK)
		}
	}
	for range 1000 { // one that is joined may still be on its way out
		if runtime.NumGoroutine() <= before {
			return
		}
		runtime.Gosched()
	}
	t.Errorf("%d goroutines are left", runtime.NumGoroutine()-before)
}
