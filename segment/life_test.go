package segment_test

import (
	"maps"
	"math/rand/v2"
	"runtime"
	"slices"
	"strings"
	"testing"

	"penstock/api"
	"penstock/disk"
	"penstock/segment"
)

// life is a log, and what the tests know of it.
type life struct {
	log     api.Log
	size    int
	kept    map[uint64]string   // what was appended, the answer being OK
	tried   map[uint64][]string // and what was not
	dropped uint64              // up to that there may be nothing
}

func begin(size int) *life {
	x := &life{size: size, kept: map[uint64]string{}, tried: map[uint64][]string{}}
	x.log, _, _ = segment.Open(of(), size)
	return x
}

// append is told whether it was OK.
func (x *life) append(data string) bool {
	l, why := segment.Append(x.log, data)
	if why == api.OK {
		x.kept[x.log.Next] = data
	} else {
		x.tried[x.log.Next] = append(x.tried[x.log.Next], data)
	}
	x.log = l
	return why == api.OK
}

func (x *life) drop(seq uint64) bool {
	l, why := segment.Drop(x.log, seq)
	x.dropped = max(x.dropped, seq)
	x.log = l
	return why == api.OK
}

// reopen opens the disk till that is done, the power going at some of the steps, and tells what is read.
func (x *life) reopen(t *testing.T, r *rand.Rand) []api.Record {
	t.Helper()
	d := x.log.Disk
	want := find(d).records
	for {
		d.Fuse = pick(r, -1, 0, r.IntN(4))
		l, got, why := segment.Open(d, x.size)
		if why == api.ErrDown {
			if !l.Broken || len(got) != 0 {
				t.Fatalf("an opening that is cut off: %s, %s", shown(l), shownRecords(got))
			}
			d = crash(t, r, l.Disk)
			continue
		}
		if why != api.OK {
			t.Fatalf("Open of %s: error %d", shownDisk(d), why)
		}
		checkRecords(t, "Open behind what was cut off", got, want)
		x.log = l
		return got
	}
}

func crash(t *testing.T, r *rand.Rand, d api.Disk) api.Disk {
	t.Helper()
	keeps := make([]int, len(d.Files))
	for i := range keeps {
		keeps[i] = pick(r, 0, 9, r.IntN(60), 1000)
	}
	d, why := disk.Crash(d, keeps)
	if why != api.OK {
		t.Fatalf("Crash: error %d", why)
	}
	return d
}

// check tells whether the records are those that must be there, in a row.
func (x *life) check(t *testing.T, got []api.Record) {
	t.Helper()
	for i, r := range got {
		if i > 0 && r.Seq != got[i-1].Seq+1 {
			t.Fatalf("numbers are not in a row: %s", shownRecords(got))
		}
		data, is := x.kept[r.Seq]
		if is && data != r.Data || !is && !slices.Contains(x.tried[r.Seq], r.Data) {
			t.Fatalf("record %d is %s, was %s, or one of %q", r.Seq, brief(r.Data), brief(data), x.tried[r.Seq])
		}
	}
	for _, seq := range slices.Sorted(maps.Keys(x.kept)) {
		is := slices.ContainsFunc(got, func(r api.Record) bool { return r.Seq == seq })
		if seq >= x.dropped && !is {
			t.Fatalf("record %d is lost, %d being dropped: %s of %s", seq, x.dropped, shownRecords(got), shown(x.log))
		}
	}
	if n := len(got); n > 0 && (x.log.From != got[0].Seq || x.log.Next != got[n-1].Seq+1) {
		t.Fatalf("%s has %s", shown(x.log), shownRecords(got))
	}
}

// keep tells that what was read behind a crash must be there from now on, as all others.
func (x *life) keep(l []api.Record) {
	for _, r := range l {
		x.kept[r.Seq] = r.Data
	}
}

// step appends or drops something, and tells whether that was OK.
func (x *life) step(r *rand.Rand) bool {
	if r.IntN(6) == 0 {
		return x.drop(x.log.From + r.Uint64N(x.log.Next-x.log.From+1))
	}
	return x.append(someText(r))
}

// TestP106Kept does anything with a log, with faults, and the power going anywhere, in an opening, too.
func TestP106Kept(t *testing.T) {
	r := rand.New(rand.NewPCG(10, 6))
	for range 800 {
		x := begin(pick(r, 1, 20, 50, 200, api.MaxFile))
		for range 12 {
			x.log.Disk.Fuse, x.log.Disk.Fault = pick(r, -1, r.IntN(20)), pick(r, -1, r.IntN(20))
			for range r.IntN(9) {
				if !x.step(r) {
					break
				}
				got, why := segment.Records(x.log)
				if why != api.OK {
					t.Fatalf("Records of %s: error %d", shown(x.log), why)
				}
				x.check(t, got)
			}
			x.log.Disk = crash(t, r, x.log.Disk)
			got := x.reopen(t, r)
			x.check(t, got)
			x.keep(got)
		}
	}
}

// TestP106KeptByOneFile has faults without a crash behind them: as long as the records go on in the same file.
func TestP106KeptByOneFile(t *testing.T) {
	r := rand.New(rand.NewPCG(10, 60))
	for range 400 {
		x := begin(api.MaxFile)
		for range 12 {
			x.log.Disk.Fault = r.IntN(8)
			for x.append(someText(r)) && r.IntN(9) > 0 {
			}
			if r.IntN(4) == 0 {
				x.log.Disk = crash(t, r, x.log.Disk)
			}
			l, got, why := segment.Open(x.log.Disk, x.size)
			if why != api.OK {
				t.Fatalf("Open: error %d", why)
			}
			x.log = l
			x.check(t, got)
		}
	}
}

// checkWhole has the power go at one step of an Append of "new" behind so many records, the bytes being there from the step at on, and keeps each number of them.
func checkWhole(t *testing.T, size, ahead, fuse, at int) {
	t.Helper()
	x := begin(size)
	var l []string
	for i := range ahead {
		l = append(l, strings.Repeat("x", i))
		x.append(l[i])
	}
	x.log.Disk.Fuse = fuse
	cutOff, why := segment.Append(x.log, "new")
	frame := len(framed(0, "new"))
	for keep := range frame + 2 {
		want := records(1, l...)
		if why == api.OK || fuse >= at && keep >= frame {
			want = records(1, append(slices.Clone(l), "new")...)
		}
		d, _ := disk.Crash(cutOff.Disk, slices.Repeat([]int{keep}, api.MaxFiles))
		_, got, whyOpen := segment.Open(d, size)
		if whyOpen != api.OK || !slices.Equal(got, want) {
			t.Errorf("Size %d, %d records, Fuse %d, %d bytes kept: error %d, %s\nwant %s", size, ahead, fuse, keep, whyOpen, shownRecords(got), shownRecords(want))
		}
	}
	if steps := at + 2; (why == api.OK) != (fuse >= steps) {
		t.Errorf("Size %d, %d records, Fuse %d: error %d", size, ahead, fuse, why)
	}
}

func TestP107Whole(t *testing.T) {
	for fuse := range 4 {
		checkWhole(t, 1000, 0, fuse, 1) // behind a Create
		for ahead := 1; ahead < 4; ahead++ {
			checkWhole(t, 1, ahead, fuse, 1)
			checkWhole(t, 1000, ahead, fuse, 0)
		}
	}
}

// TestP1010CutOff has the power go at each step of an opening, again and again.
func TestP1010CutOff(t *testing.T) {
	r := rand.New(rand.NewPCG(10, 10))
	for range 500 {
		d := someFiles(r)
		want := find(d).records
		for n := range 10 {
			d.Fuse = n % 3
			l, got, why := segment.Open(d, 1)
			if why == api.OK {
				checkRecords(t, "Open", got, want)
				break
			}
			if why != api.ErrDown || !l.Broken {
				t.Fatalf("Open: error %d, %s", why, shown(l))
			}
			d = crash(t, r, l.Disk)
		}
		_, got, why := segment.Open(d, 1)
		if why != api.OK {
			t.Fatalf("Open of %s: error %d", shownDisk(d), why)
		}
		checkRecords(t, "Open at last", got, want)
	}
}

// answers is what answers a log, by names.
func answers() map[string]func(api.Log) api.Log {
	app := func(l api.Log, data string) api.Log { l, _ = segment.Append(l, data); return l }
	drop := func(l api.Log, seq uint64) api.Log { l, _ = segment.Drop(l, seq); return l }
	open := func(l api.Log) api.Log { l, _, _ = segment.Open(l.Disk, 100); return l }
	return map[string]func(api.Log) api.Log{
		"Open":               open,
		"Open of a torn one": func(l api.Log) api.Log { l.Disk.Files = append(l.Disk.Files, file(30, "")); return open(l) },
		"Open with a fault": func(l api.Log) api.Log {
			l.Disk.Files, l.Disk.Fault = append(l.Disk.Files, file(30, "")), 0
			return open(l)
		},
		"Append":                func(l api.Log) api.Log { return app(l, "x") },
		"Append to another one": func(l api.Log) api.Log { l.Size = 1; return app(l, "x") },
		"Append, too long":      func(l api.Log) api.Log { return app(l, strings.Repeat("x", api.MaxBytes+1)) },
		"Append, full":          func(l api.Log) api.Log { l.Next = most; return app(l, "x") },
		"Append, broken":        func(l api.Log) api.Log { l.Broken = true; return app(l, "x") },
		"Append, with a fault":  func(l api.Log) api.Log { l.Disk.Fault = 0; return app(l, "x") },
		"Append, down":          func(l api.Log) api.Log { l.Disk.Down = true; return app(l, "x") },
		"Drop":                  func(l api.Log) api.Log { return drop(l, 8) },
		"Drop of nothing":       func(l api.Log) api.Log { return drop(l, 1) },
		"Drop of too much":      func(l api.Log) api.Log { return drop(l, 21) },
		"Drop, broken":          func(l api.Log) api.Log { l.Broken = true; return drop(l, 8) },
		"Drop, with a fault":    func(l api.Log) api.Log { l.Disk.Fault = 0; return drop(l, 8) },
	}
}

func spoil(l api.Log) {
	clear(l.Disk.Files[:cap(l.Disk.Files)])
}

func TestP105NewMemory(t *testing.T) {
	for name, do := range answers() {
		for _, room := range []int{0, 1, 5} {
			l := logOf(of(), 100, 3, 20)
			l.Disk.Files = append(make([]api.File, 0, 4+room), fives()...)
			if strings.HasPrefix(name, "Open") {
				l.Disk.Files = slices.Clip(l.Disk.Files) // to which the test itself appends
			}
			before := slices.Clone(l.Disk.Files[:cap(l.Disk.Files)])
			first, second := do(l), do(l)
			want := second
			want.Disk.Files = slices.Clone(second.Disk.Files)
			spoil(first)
			if !slices.Equal(l.Disk.Files[:cap(l.Disk.Files)], before) {
				t.Errorf("%s: what was handed in is changed, or shares memory with the answer", name)
			}
			spoil(l)
			if !same(second, want) || len(second.Disk.Files) < 3 {
				t.Errorf("%s: what was handed in, or an earlier answer, is kept: %s", name, shown(second))
			}
		}
	}
}

func TestP105NewRecords(t *testing.T) {
	l, one, _ := segment.Open(of(fives()...), 100)
	two, _ := segment.Records(l)
	three, _ := segment.Records(l)
	want := slices.Clone(one)
	clear(one[:cap(one)])
	clear(two[:cap(two)])
	if !slices.Equal(three, want) || len(want) != 17 || !slices.Equal(l.Disk.Files, fives()) {
		t.Errorf("Records share memory: %s", shownRecords(three))
	}
}

// someLog is anything, often right.
func someLog(r *rand.Rand) api.Log {
	l := logOf(someFiles(r), pick(r, 1, 20, 100, api.MaxFile, 0, api.MaxFile+1), pick(r, 0, 1, 2, most, most+1, r.Uint64()), pick(r, 1, 2, 9, most-1, most, most+1, r.Uint64()))
	l.Disk.Down, l.Broken = r.IntN(9) == 0, r.IntN(9) == 0
	l.Disk.Fuse, l.Disk.Fault = r.IntN(5)-2, r.IntN(5)-2
	if r.IntN(9) == 0 && len(l.Disk.Files) > 0 {
		f := &l.Disk.Files[r.IntN(len(l.Disk.Files))]
		f.Synced += r.IntN(5) - 2
	}
	return l
}

// TestP1AndP2Anything does anything with any logs: what is not right is refused, and beside an error there is what the document says.
func TestP1AndP2Anything(t *testing.T) {
	r := rand.New(rand.NewPCG(10, 9))
	for range 4000 {
		l := someLog(r)
		right := segment.Check(l)
		opened, got, whyOpen := segment.Open(l.Disk, l.Size)
		appended, whyAppend := segment.Append(l, someText(r))
		dropped, whyDrop := segment.Drop(l, r.Uint64()>>r.IntN(64))
		list, whyRecords := segment.Records(l)
		switch {
		case whyOpen == api.OK && (segment.Check(opened) != api.OK || opened.Broken), whyOpen != api.OK && len(got) != 0:
			t.Fatalf("Open of %s: error %d, %s", shownDisk(l.Disk), whyOpen, shown(opened))
		case right != api.OK && (whyAppend != right || whyDrop != right || whyRecords != right || !same(appended, api.Log{}) || !same(dropped, api.Log{}) || len(list) != 0):
			t.Fatalf("%s, which is not right: errors %d, %d, %d, %s, %s", shown(l), whyAppend, whyDrop, whyRecords, shown(appended), shown(dropped))
		case right == api.OK && segment.Check(appended) != api.OK, right == api.OK && disk.Check(dropped.Disk) != api.OK:
			t.Fatalf("%s is changed to %s, and to %s", shown(l), shown(appended), shown(dropped))
		}
	}
}

func TestP3AndP4AlwaysTheSame(t *testing.T) {
	before := runtime.NumGoroutine()
	for range 30 {
		checkSame(t, "once more", of(fives()...), 3, records(3, "3", "4", "5", "6", "7", "8", "9", "10", "11", "12", "13", "14", "15", "16", "17", "18", "19"))
		checkDrop(t, "once more", logOf(of(fives()...), 100, 3, 20), 15, logOf(of(fives()[2:]...), 100, 13, 20), api.OK)
	}
	for range 1000 { // one that is joined may still be on its way out
		if runtime.NumGoroutine() <= before {
			return
		}
		runtime.Gosched()
	}
	t.Errorf("%d goroutines are left", runtime.NumGoroutine()-before)
}
