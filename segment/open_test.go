package segment_test

import (
	"math"
	"math/rand/v2"
	"slices"
	"strings"
	"testing"

	"penstock/api"
	"penstock/disk"
	"penstock/segment"
)

func others() []api.File {
	var l []api.File
	for _, name := range []string{"0", "1", "000000000000001", "00000000000000001", "000000000000000A", "00000000000000aA", "000000000000000g", "+000000000000001", "-000000000000001", "0x00000000000001", " 000000000000001", "000000000000001 ", "0000_0000_0000_1", "4000000000000001", "400000000000000f", "8000000000000000", "ffffffffffffffff", "lock", "\xff", "\uff10\uff10\uff10\uff10\uff101", strings.Repeat("0", api.MaxText)} {
		l = append(l, other(name, framed(1, "x")+"torn"))
	}
	slices.SortFunc(l, func(a, b api.File) int { return strings.Compare(a.Name, b.Name) })
	return l
}

// among is files and others, in order.
func among(files ...api.File) api.Disk {
	l := append(others(), files...)
	slices.SortFunc(l, func(a, b api.File) int { return strings.Compare(a.Name, b.Name) })
	return of(l...)
}

func TestP101OpenOfNothing(t *testing.T) {
	checkSame(t, "nothing", of(), 1, nil)
	checkSame(t, "nothing, but fuses", api.Disk{Fuse: 0, Fault: 0}, 1, nil)
	checkSame(t, "others", among(), 1, nil)
}

func TestP101Others(t *testing.T) {
	checkSame(t, "a log among others", among(file(1, row(1, "a", "b")), file(3, row(3, "c"))), 1, records(1, "a", "b", "c"))
	checkOpen(t, "a torn log among others", among(file(1, row(1, "a", "b")+"x"), file(3, row(3, "c"))), among(file(1, row(1, "a", "b"))), 1, records(1, "a", "b"))
	left := among(file(0x1f, row(0x1f, "a")))
	checkOpen(t, "a log with a hole among others", among(file(0x1f, row(0x1f, "a")), file(0xabcdef, "")), left, 0x1f, records(0x1f, "a"))
}

func TestP101Errors(t *testing.T) {
	wrong := of(file(1, ""), file(1, ""))
	wrong.Down = true
	down := of(file(1, row(1, "a")+"x"), file(5, ""))
	down.Down = true
	for name, x := range map[string]struct {
		disk api.Disk
		size int
		why  api.Errno
	}{
		"a disk that is not right":        {wrong, 1, api.ErrState},
		"a disk that is not right, and 0": {wrong, 0, api.ErrState},
		"0":                               {of(), 0, api.ErrRange},
		"below 0":                         {of(), -1, api.ErrRange},
		"the least":                       {of(), math.MinInt, api.ErrRange},
		"more than a file may have":       {of(), api.MaxFile + 1, api.ErrRange},
		"the most":                        {of(), math.MaxInt, api.ErrRange},
		"a disk that is down, and 0":      {down, 0, api.ErrRange},
		"a disk that is down":             {down, 1, api.ErrDown},
	} {
		l, got, why := segment.Open(x.disk, x.size)
		checkLog(t, "Open of "+name, l, why, api.Log{}, x.why)
		checkRecords(t, "Open of "+name, got, nil)
	}
	for _, size := range []int{1, 2, api.MaxFile - 1, api.MaxFile} {
		l, got, why := segment.Open(of(file(7, row(7, "a"))), size)
		checkLog(t, "Open", l, why, logOf(of(file(7, row(7, "a"))), size, 7, 8), api.OK)
		checkRecords(t, "Open", got, records(7, "a"))
	}
}

func TestP101Frames(t *testing.T) {
	great := strings.Repeat("g", api.MaxBytes)
	checkSame(t, "an empty file", of(file(1, "")), 1, nil)
	checkSame(t, "an empty file from 9 on", of(file(9, "")), 9, nil)
	checkSame(t, "an empty file from 0 on", of(file(0, "")), 0, nil)
	checkSame(t, "a file from 0 on", of(file(0, row(0, "a", ""))), 0, records(0, "a", ""))
	checkSame(t, "empty records", of(file(1, row(1, "", "", ""))), 1, records(1, "", "", ""))
	checkSame(t, "greatest records", of(file(1, row(1, great, "x", great))), 1, records(1, great, "x", great))
	checkSame(t, "bytes of all kinds", of(file(1, row(1, "\x00\xff\n", framed(1, "within")))), 1, records(1, "\x00\xff\n", framed(1, "within")))
	checkSame(t, "great numbers", of(file(0x123456789abcdef, row(0x123456789abcdef, "a", "b"))), 0x123456789abcdef, records(0x123456789abcdef, "a", "b"))
	checkOpen(t, "a greater record", of(file(1, row(1, "a", great+"g", "b"))), of(file(1, row(1, "a"))), 1, records(1, "a"))
	checkOpen(t, "a greater record alone", of(file(1, row(1, great+"g"))), of(file(1, "")), 1, nil)
}

// TestP101TheLayout has a frame by its bytes.
func TestP101TheLayout(t *testing.T) {
	s := "\x02\x00\x00\x00" + "\x01\x00\x00\x00\x00\x00\x00\x00" + "\x07\xee\x5d\x46" + "hi"
	if framed(1, "hi") != s {
		t.Fatalf("the tests' frame is %q", framed(1, "hi"))
	}
	checkSame(t, "a frame", of(file(1, s)), 1, records(1, "hi"))
}

func TestP101Torn(t *testing.T) {
	whole := row(1, "first", "", "third")
	ends := []int{0, 21, 37, 58}
	for n := range len(whole) + 1 {
		i, is := slices.BinarySearch(ends, n)
		if !is {
			i--
		}
		want := records(1, []string{"first", "", "third"}[:i]...)
		left := of(file(1, whole[:ends[i]]))
		checkOpen(t, "a file that is torn", of(file(1, whole[:n])), left, 1, want)
		next := 1 + uint64(i)
		d := of(file(1, whole[:n]), file(next, row(next, "behind")), file(next+1, row(next+1, "more")))
		switch {
		case i == 0: // the file itself has the number to come
			d.Files = slices.Delete(d.Files, 1, 2)
			checkOpen(t, "a file without records ahead of others", d, left, 1, nil)
		case is:
			checkSame(t, "a whole file ahead of others", d, 1, append(want, records(next, "behind", "more")...))
		default:
			checkOpen(t, "a torn file ahead of others", d, left, 1, want)
		}
	}
}

// TestP101Bits has each bit of the second one of three frames wrong.
func TestP101Bits(t *testing.T) {
	whole := row(1, "first", "second", "third")
	for at := 21; at < 21+22; at++ {
		for bit := range 8 {
			b := []byte(whole)
			b[at] ^= 1 << bit
			checkOpen(t, "a bit that is wrong", of(file(1, string(b))), of(file(1, whole[:21])), 1, records(1, "first"))
		}
	}
}

func TestP101Numbers(t *testing.T) {
	for name, s := range map[string]string{
		"one left out":       framed(3, "b") + framed(4, "c"),
		"once more":          framed(1, "b") + framed(2, "c"),
		"from 0 on":          framed(0, "b"),
		"a greater one":      framed(2+1<<32, "b"),
		"the greatest":       framed(math.MaxUint64, "b"),
		"a length too small": framedAs(0, 2, "b"),
		"a length too great": framedAs(2, 2, "b"),
		"the greatest one":   framedAs(math.MaxUint32, 2, "b"),
		"zeros":              strings.Repeat("\x00", 100),
		"one zero":           "\x00",
	} {
		checkOpen(t, name, of(file(1, framed(1, "a")+s), file(2, row(2, "x"))), of(file(1, framed(1, "a"))), 1, records(1, "a"))
		if name != "once more" {
			checkOpen(t, name+", at the beginning", of(file(1, s+framed(2, "d"))), of(file(1, "")), 1, nil)
		}
	}
	checkOpen(t, "numbers of another file", of(file(2, row(1, "a", "b"))), of(file(2, "")), 2, nil)
}

func TestP101Files(t *testing.T) {
	one, two, three := file(5, row(5, "a", "b")), file(7, row(7, "c")), file(8, row(8, "d", "e"))
	all := records(5, "a", "b", "c", "d", "e")
	checkSame(t, "three files", of(one, two, three), 5, all)
	checkSame(t, "three files, and an empty one", of(one, two, three, file(10, "")), 5, all)
	checkOpen(t, "one behind an empty one", of(one, file(7, ""), three), of(one, file(7, "")), 5, all[:2])
	checkOpen(t, "an empty one ahead", of(file(4, ""), one, two), of(file(4, "")), 4, nil)
	checkOpen(t, "one that is left out", of(one, three, file(10, row(10, "f"))), of(one), 5, all[:2])
	checkOpen(t, "one too early", of(one, file(6, row(6, "b")), two, three), of(one), 5, all[:2])
	checkOpen(t, "one too late, and then one that would fit", of(one, file(9, ""), file(10, "")), of(one), 5, all[:2])
	checkOpen(t, "a torn one", of(one, file(7, row(7, "c")+"x"), three), of(one, two), 5, all[:3])
	checkOpen(t, "a torn one at the end", of(one, two, file(8, row(8, "d", "e")+"x")), of(one, two, three), 5, all)
	checkOpen(t, "two torn ones", of(one, file(7, row(7, "c")+"x"), file(8, "x")), of(one, two), 5, all[:3])
	checkOpen(t, "a torn one ahead of a hole", of(one, file(7, row(7, "c")+"x"), file(9, "")), of(one, two), 5, all[:3])
}

func TestP101GreatestNumbers(t *testing.T) {
	checkSame(t, "the last number", of(file(most-1, row(most-1, "a"))), most-1, records(most-1, "a"))
	checkSame(t, "the last two", of(file(most-2, row(most-2, "a", "b"))), most-2, records(most-2, "a", "b"))
	checkOpen(t, "one more", of(file(most-1, row(most-1, "a", "b"))), of(file(most-1, row(most-1, "a"))), most-1, records(most-1, "a"))
	checkSame(t, "a file behind the last one", of(file(most, "")), most, nil)
	checkOpen(t, "a file of what may not be", of(file(most, row(most, "a"))), of(file(most, "")), most, nil)
	checkSame(t, "a file ahead of that", of(file(most-1, row(most-1, "a")), file(most, "")), most-1, records(most-1, "a"))
	checkOpen(t, "two files", of(file(most-1, row(most-1, "a")), file(most, row(most, "b"))), of(file(most-1, row(most-1, "a")), file(most, "")), most-1, records(most-1, "a"))
	checkSame(t, "a file past that", of(file(most-1, row(most-1, "a")), file(most+1, row(most+1, "b"))), most-1, records(most-1, "a"))
	checkSame(t, "a file past that alone", of(file(most+1, row(most+1, "b"))), 1, nil)
}

// TestP101Unsynced: what is whole is read, safe or not, and nothing is done with it.
func TestP101Unsynced(t *testing.T) {
	d := of(file(1, row(1, "a", "b")))
	for synced := range len(d.Files[0].Data) {
		d.Files[0].Synced = synced
		checkSame(t, "what is not safe", d, 1, records(1, "a", "b"))
	}
	d.Files[0].Data += "torn"
	checkOpen(t, "what is not safe, and torn", d, of(file(1, row(1, "a", "b"))), 1, records(1, "a", "b"))
}

func TestP101Failing(t *testing.T) {
	whole := row(1, "a", "b")
	for name, x := range map[string]struct {
		disk  api.Disk
		steps []api.DiskStep
	}{
		"nothing": {of(), nil},
		"a whole": {of(file(1, whole)), nil},
		"a cut":   {of(file(1, whole+"x")), []api.DiskStep{{Kind: api.DiskCut, Name: nameOf(1), Size: len(whole)}}},
		"one behind": {of(file(1, whole), file(4, "x")), []api.DiskStep{
			{Kind: api.DiskRemove, Name: nameOf(4)},
		}},
		"three behind, and a cut": {among(file(1, whole+"x"), file(3, row(3, "c")), file(4, "x"), file(9, "y")), []api.DiskStep{
			{Kind: api.DiskRemove, Name: nameOf(9)},
			{Kind: api.DiskRemove, Name: nameOf(4)},
			{Kind: api.DiskRemove, Name: nameOf(3)},
			{Kind: api.DiskCut, Name: nameOf(1), Size: len(whole)},
		}},
	} {
		open := func(d api.Disk) (api.Log, api.Errno) {
			l, got, why := segment.Open(d, 9)
			if why == api.OK && len(got) != len(find(d).records) || why != api.OK && len(got) != 0 {
				t.Errorf("Open of %s: error %d, %s", name, why, shownRecords(got))
			}
			return l, why
		}
		done := find(x.disk)
		checkSteps(t, "Open of "+name, x.disk, x.steps, open, logOf(of(), 9, done.from, done.next), api.Log{Size: 9})
	}
}

// TestP101AsTheModel opens disks of which much is wrong, each step failing once.
func TestP101AsTheModel(t *testing.T) {
	r := rand.New(rand.NewPCG(10, 1))
	for range 2000 {
		d := someFiles(r)
		want := find(d)
		left := d
		for _, s := range want.steps {
			left, _ = disk.Do(left, s)
		}
		checkOpen(t, shownDisk(d), d, left, want.from, want.records)
		open := func(d api.Disk) (api.Log, api.Errno) {
			l, _, why := segment.Open(d, 9)
			return l, why
		}
		checkSteps(t, "Open", d, want.steps, open, logOf(of(), 9, want.from, want.next), api.Log{Size: 9})
		if t.Failed() {
			return
		}
	}
}
