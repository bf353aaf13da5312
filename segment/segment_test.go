package segment_test

import (
	"math"
	"slices"
	"strconv"
	"strings"
	"testing"

	"penstock/api"
	"penstock/segment"
)

// wrongs are logs that are not right.
func wrongs() map[string]api.Log {
	good := logOf(of(file(1, row(1, "a"))), 10, 1, 2)
	l := map[string]api.Log{}
	wrong := func(name string, do func(*api.Log)) {
		x := good
		do(&x)
		l[name] = x
		x.Broken = true
		l[name+", broken"] = x
		x.Disk.Down = true
		l[name+", down"] = x
	}
	wrong("a disk that is not right", func(x *api.Log) { x.Disk = of(file(1, ""), file(1, "")) })
	wrong("a file that is not right", func(x *api.Log) { x.Disk = of(api.File{Name: "other", Synced: 1}) })
	wrong("Size 0", func(x *api.Log) { x.Size = 0 })
	wrong("Size below 0", func(x *api.Log) { x.Size = math.MinInt })
	wrong("Size above that of a file", func(x *api.Log) { x.Size = api.MaxFile + 1 })
	wrong("From above Next", func(x *api.Log) { x.From = 3 })
	wrong("the greatest From", func(x *api.Log) { x.From = math.MaxUint64 })
	wrong("Next too great", func(x *api.Log) { x.Next = most + 1 })
	wrong("the greatest Next", func(x *api.Log) { x.Next = math.MaxUint64 })
	return l
}

// oddities are logs that are right, whatever their disks have.
func oddities() map[string]api.Log {
	d := of(file(1, row(1, "a")))
	down, broken := logOf(d, 10, 1, 2), logOf(d, 10, 1, 2)
	down.Disk.Down, broken.Broken = true, true
	return map[string]api.Log{
		"nothing":           logOf(api.Disk{}, 1, 0, 0),
		"a log":             logOf(d, 10, 1, 2),
		"the greatest Size": logOf(d, api.MaxFile, 1, 2),
		"From as Next":      logOf(d, 1, 2, 2),
		"the greatest Next": logOf(d, 1, most, most),
		"another Next":      logOf(d, 1, 0, 99),
		"torn":              logOf(of(file(1, "torn"), file(7, "")), 1, 5, 6),
		"others":            logOf(among(), 1, 1, 1),
		"down":              down,
		"broken":            broken,
	}
}

func TestP102Check(t *testing.T) {
	for name, l := range oddities() {
		if why := segment.Check(l); why != api.OK {
			t.Errorf("Check of %s: error %d", name, why)
		}
	}
	for name, l := range wrongs() {
		if why := segment.Check(l); why != api.ErrState {
			t.Errorf("Check of %s: error %d", name, why)
		}
	}
}

func checkAppend(t *testing.T, name string, l api.Log, data string, want api.Log, wantWhy api.Errno) {
	t.Helper()
	got, why := segment.Append(l, data)
	checkLog(t, "Append to "+name, got, why, want, wantWhy)
}

// TestP102Refused has all errors that apply at once, and then one less each time.
func TestP102Refused(t *testing.T) {
	long := strings.Repeat("x", api.MaxBytes+1)
	for name, l := range wrongs() {
		for _, data := range []string{"a", long} {
			checkAppend(t, name, l, data, api.Log{}, api.ErrState)
		}
	}
	l := logOf(api.Disk{Files: []api.File{file(1, row(1, "a"))}, Down: true}, 1, 1, most)
	broken := l
	broken.Broken = true
	checkAppend(t, "a broken one", broken, long, broken, api.ErrState)
	checkAppend(t, "a full one", l, long, l, api.ErrLong)
	checkAppend(t, "a full one", l, long[1:], l, api.ErrRange)
	l.Next--
	broken = l
	broken.Broken = true
	checkAppend(t, "one that is down", l, long[1:], broken, api.ErrDown)
	up := logOf(of(), 1, 1, 1)
	checkAppend(t, "an empty one", up, long, up, api.ErrLong)
	checkAppend(t, "an empty one", up, strings.Repeat("x", 1<<20), up, api.ErrLong)
	checkAppend(t, "an empty one", up, long[1:], logOf(of(file(1, row(1, long[1:]))), 1, 1, 2), api.OK)
}

func TestP102Append(t *testing.T) {
	checkAppend(t, "nothing", logOf(of(), 10, 1, 1), "hi", logOf(of(file(1, row(1, "hi"))), 10, 1, 2), api.OK)
	checkAppend(t, "others", logOf(among(), 10, 1, 1), "", logOf(among(file(1, row(1, ""))), 10, 1, 2), api.OK)
	checkAppend(t, "no file from 5 on", logOf(of(), 10, 5, 7), "a", logOf(of(file(7, row(7, "a"))), 10, 5, 8), api.OK)
	checkAppend(t, "an empty file", logOf(of(file(3, "")), 10, 3, 3), "a", logOf(of(file(3, row(3, "a"))), 10, 3, 4), api.OK)
	checkAppend(t, "a file from 0 on", logOf(of(), 10, 0, 0), "a", logOf(of(file(0, row(0, "a"))), 10, 0, 1), api.OK)
	checkAppend(t, "great numbers", logOf(of(file(0xabc, row(0xabc, "a"))), 1, 0xabc, 0xabd), "b", logOf(of(file(0xabc, row(0xabc, "a")), file(0xabd, row(0xabd, "b"))), 1, 0xabc, 0xabe), api.OK)
	last := logOf(of(), 10, 1, most-1)
	checkAppend(t, "the last but one", last, "a", logOf(of(file(most-1, row(most-1, "a"))), 10, 1, most), api.OK)
	checkAppend(t, "a file past the greatest number", logOf(of(file(most+1, "x")), 10, 1, 1), "a", logOf(of(file(1, row(1, "a")), file(most+1, "x")), 10, 1, 2), api.OK)
}

// TestP102Size has a record come to a file of 34 bytes that is the last one.
func TestP102Size(t *testing.T) {
	one := row(1, "a", "b")
	for size, apart := range map[int]bool{1: true, 33: true, 34: true, 35: false, 36: false, 51: false, api.MaxFile: false} {
		for _, data := range []string{"", "c", strings.Repeat("c", 1000)} {
			want := of(file(1, one+row(3, data)))
			if apart {
				want = of(file(1, one), file(3, row(3, data)))
			}
			checkAppend(t, "Size "+strconv.Itoa(size), logOf(of(file(1, one)), size, 1, 3), data, logOf(want, size, 1, 4), api.OK)
		}
	}
	ahead := file(1, one)
	for size, want := range map[int]api.Disk{17: of(ahead, file(3, row(3, "c")), file(4, row(4, "d"))), 18: of(ahead, file(3, row(3, "c", "d")))} {
		checkAppend(t, "two files", logOf(of(ahead, file(3, row(3, "c"))), size, 1, 4), "d", logOf(want, size, 1, 5), api.OK)
	}
}

// TestP102MaxFile has records come that just fit into a file, and that do not.
func TestP102MaxFile(t *testing.T) {
	const rest = 41
	great := strings.Repeat("g", api.MaxFile/4-16)
	four := row(1, great, great, great, great[rest:])
	l := logOf(of(file(1, four)), api.MaxFile, 1, 5)
	full := strings.Repeat("f", rest-16)
	checkAppend(t, "just room", l, full, logOf(of(file(1, four+framed(5, full))), api.MaxFile, 1, 6), api.OK)
	checkAppend(t, "no room", l, full+"f", logOf(of(file(1, four), file(5, framed(5, full+"f"))), api.MaxFile, 1, 6), api.OK)
	l = logOf(of(file(1, four+framed(5, full))), api.MaxFile, 1, 6)
	checkAppend(t, "a full file", l, "", logOf(of(file(1, four+framed(5, full)), file(6, framed(6, ""))), api.MaxFile, 1, 7), api.OK)
}

// TestP102Synced: the whole file is, whatever of it was not.
func TestP102Synced(t *testing.T) {
	d := of(file(1, row(1, "a")))
	d.Files[0].Synced = 3
	checkAppend(t, "what is not safe", logOf(d, 100, 1, 2), "b", logOf(of(file(1, row(1, "a", "b"))), 100, 1, 3), api.OK)
	checkAppend(t, "what is not safe, and full", logOf(d, 1, 1, 2), "b", logOf(of(d.Files[0], file(2, row(2, "b"))), 1, 1, 3), api.OK)
}

// TestP102Odd has logs that do not go with their disks: a record goes to the last file all the same, and what the disk refuses is told.
func TestP102Odd(t *testing.T) {
	l := logOf(of(file(1, "torn")), 5, 1, 9)
	checkAppend(t, "a torn one", l, "a", logOf(of(file(1, "torn"+framed(9, "a"))), 5, 1, 10), api.OK)
	l = logOf(of(file(3, "full")), 4, 3, 3)
	broken := l
	broken.Broken = true
	checkAppend(t, "a file that is there", l, "a", broken, api.ErrState)
	var many []api.File
	for i := range uint64(api.MaxFiles) {
		many = append(many, file(1+i, row(1+i, "a")))
	}
	l = logOf(of(many...), 17, 1, api.MaxFiles+1)
	broken = l
	broken.Broken = true
	checkAppend(t, "a full disk", l, "a", broken, api.ErrFull)
	l.Size++
	many = slices.Clone(many)
	many[api.MaxFiles-1] = file(api.MaxFiles, row(api.MaxFiles, "a", "b"))
	checkAppend(t, "a disk that has room in its last file", l, "b", logOf(of(many...), 18, 1, api.MaxFiles+2), api.OK)
	l = logOf(of(file(9, "full")), 4, 1, 5)
	checkAppend(t, "a file of a greater number", l, "a", logOf(of(file(5, ""), file(9, "full"+framed(5, "a"))), 4, 1, 6), api.OK)
}

func TestP102Failing(t *testing.T) {
	for name, x := range map[string]struct {
		disk  api.Disk
		from  uint64
		next  uint64
		file  uint64
		apart bool
	}{
		"nothing":                {of(), 1, 1, 1, true},
		"others":                 {among(), 1, 1, 1, true},
		"a file":                 {of(file(1, row(1, "a"))), 1, 2, 1, false},
		"an empty file":          {of(file(4, "")), 4, 4, 4, false},
		"a full file":            {of(file(1, row(1, "0123456789", "b"))), 1, 3, 3, true},
		"a full file and others": {among(file(1, row(1, "0123456789", "b"))), 1, 3, 3, true},
		"two files":              {of(file(1, row(1, "0123456789", "b")), file(3, row(3, "c"))), 1, 4, 3, false},
	} {
		steps := []api.DiskStep{{Kind: api.DiskAppend, Name: nameOf(x.file), Data: framed(x.next, "new")}, {Kind: api.DiskSync, Name: nameOf(x.file)}}
		if x.apart {
			steps = slices.Insert(steps, 0, api.DiskStep{Kind: api.DiskCreate, Name: nameOf(x.file)})
		}
		do := func(d api.Disk) (api.Log, api.Errno) {
			return segment.Append(logOf(d, 40, x.from, x.next), "new")
		}
		checkSteps(t, "Append to "+name, x.disk, steps, do, logOf(of(), 40, x.from, x.next+1), logOf(of(), 40, x.from, x.next))
	}
}

func checkDrop(t *testing.T, name string, l api.Log, seq uint64, want api.Log, wantWhy api.Errno) {
	t.Helper()
	got, why := segment.Drop(l, seq)
	checkLog(t, "Drop of "+name+" up to "+strconv.FormatUint(seq, 10), got, why, want, wantWhy)
}

func TestP103Refused(t *testing.T) {
	for name, l := range wrongs() {
		for _, seq := range []uint64{0, 1, math.MaxUint64} {
			checkDrop(t, name, l, seq, api.Log{}, api.ErrState)
		}
	}
	for name, l := range oddities() {
		if l.Broken {
			for _, seq := range []uint64{0, 1, l.Next, l.Next + 1} {
				checkDrop(t, name, l, seq, l, api.ErrState)
			}
			continue
		}
		for _, seq := range []uint64{l.Next + 1, l.Next + 2, math.MaxUint64} {
			checkDrop(t, name, l, seq, l, api.ErrRange)
		}
	}
}

// fives are files of five records each, from 3 on, the last one having two.
func fives() []api.File {
	return []api.File{
		file(3, row(3, "3", "4", "5", "6", "7")),
		file(8, row(8, "8", "9", "10", "11", "12")),
		file(13, row(13, "13", "14", "15", "16", "17")),
		file(18, row(18, "18", "19")),
	}
}

func TestP103Drop(t *testing.T) {
	for seq := range uint64(21) {
		l := logOf(of(fives()...), 100, 3, 20)
		left := fives()
		for len(left) > 1 && left[1].Name <= nameOf(seq) {
			left = left[1:]
		}
		from := map[int]uint64{4: 3, 3: 8, 2: 13, 1: 18}[len(left)]
		checkDrop(t, "four files", l, seq, logOf(of(left...), 100, from, 20), api.OK)
		l.Disk, left = among(fives()...), among(left...).Files
		checkDrop(t, "four files among others", l, seq, logOf(of(left...), 100, from, 20), api.OK)
	}
	l := logOf(of(append(fives(), file(20, ""))...), 100, 3, 20)
	checkDrop(t, "an empty one behind", l, 19, logOf(of(fives()[3], file(20, "")), 100, 18, 20), api.OK)
	checkDrop(t, "an empty one behind", l, 20, logOf(of(file(20, "")), 100, 20, 20), api.OK)
	l = logOf(of(), 100, 3, 20)
	checkDrop(t, "no file", l, 20, l, api.OK)
	l = logOf(of(file(1, row(1, "a"))), 100, 1, 2)
	checkDrop(t, "one file", l, 2, l, api.OK)
}

// TestP103Odd has logs that do not go with their disks.
func TestP103Odd(t *testing.T) {
	l := logOf(among(), 100, 3, 20)
	checkDrop(t, "others", l, 20, l, api.OK)
	l = logOf(of(fives()...), 100, 0, 20)
	checkDrop(t, "another From", l, 0, logOf(of(fives()...), 100, 3, 20), api.OK)
	l.Disk.Down = true
	want := l
	want.From = 3
	checkDrop(t, "one that is down, nothing going", l, 7, want, api.OK)
	want = l
	want.Broken = true
	checkDrop(t, "one that is down", l, 8, want, api.ErrDown)
	l = logOf(of(file(most-1, row(most-1, "a")), file(most, "")), 1, most-1, most)
	checkDrop(t, "the greatest", l, most, logOf(of(file(most, "")), 1, most, most), api.OK)
}

func TestP103Failing(t *testing.T) {
	for _, among := range []func(...api.File) api.Disk{of, among} {
		for seq, n := range map[uint64]int{2: 0, 7: 0, 8: 1, 12: 1, 13: 2, 18: 3, 20: 3} {
			var steps []api.DiskStep
			for _, f := range fives()[:n] {
				steps = append(steps, api.DiskStep{Kind: api.DiskRemove, Name: f.Name})
			}
			do := func(d api.Disk) (api.Log, api.Errno) { return segment.Drop(logOf(d, 100, 1, 20), seq) }
			from := []uint64{3, 8, 13, 18}[n]
			checkSteps(t, "Drop", among(fives()...), steps, do, logOf(of(), 100, from, 20), logOf(of(), 100, 1, 20))
		}
	}
}

func TestP104Records(t *testing.T) {
	for name, l := range wrongs() {
		got, why := segment.Records(l)
		if why != api.ErrState || len(got) != 0 {
			t.Errorf("Records of %s: error %d, %s", name, why, shownRecords(got))
		}
	}
	for name, l := range oddities() {
		want, wantWhy := find(l.Disk).records, api.OK
		if l.Disk.Down {
			want, wantWhy = nil, api.ErrDown
		}
		if l.Broken {
			want, wantWhy = nil, api.ErrState
		}
		got, why := segment.Records(l)
		if why != wantWhy {
			t.Errorf("Records of %s: error %d, want %d", name, why, wantWhy)
		}
		checkRecords(t, "Records of "+name, got, want)
	}
	broken := logOf(api.Disk{Down: true}, 1, 1, 1)
	broken.Broken = true
	if got, why := segment.Records(broken); why != api.ErrState || len(got) != 0 {
		t.Errorf("Records of one that is broken, and down: error %d, %s", why, shownRecords(got))
	}
}

// TestP104Torn: what an opening would read is read, whatever the log says; nothing is done with its disk.
func TestP104Torn(t *testing.T) {
	d := of(file(3, row(3, "a", "b")), file(5, row(5, "c")+"x"), file(6, row(6, "d")))
	d.Fuse, d.Fault = 0, 0
	for _, l := range []api.Log{logOf(d, 1, 3, 6), logOf(d, 100, 0, 0), logOf(d, 1, most, most)} {
		got, why := segment.Records(l)
		if why != api.OK {
			t.Errorf("Records: error %d", why)
		}
		checkRecords(t, "Records", got, records(3, "a", "b", "c"))
	}
}
