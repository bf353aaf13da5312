package segment_test

import (
	"encoding/binary"
	"fmt"
	"hash/crc32"
	"math/rand/v2"
	"regexp"
	"slices"
	"strconv"
	"strings"
	"testing"

	"penstock/api"
	"penstock/disk"
	"penstock/segment"
)

const most = uint64(1) << 62 // no record has that number

// framed is the bytes of a record, as the library has its checksum.
func framed(seq uint64, data string) string {
	return framedAs(uint32(len(data)), seq, data)
}

// framedAs has that length, whatever data have.
func framedAs(length uint32, seq uint64, data string) string {
	b := binary.LittleEndian.AppendUint32(nil, length)
	b = binary.LittleEndian.AppendUint64(b, seq)
	sum := crc32.Update(crc32.ChecksumIEEE(b), crc32.IEEETable, []byte(data))
	b = binary.LittleEndian.AppendUint32(b, sum)
	return string(b) + data
}

// row is the frames of records from a number on.
func row(from uint64, l ...string) string {
	s := ""
	for i, data := range l {
		s += framed(from+uint64(i), data)
	}
	return s
}

func nameOf(n uint64) string { return fmt.Sprintf("%016x", n) }

// file is one of a number, all its bytes being safe.
func file(n uint64, data string) api.File { return other(nameOf(n), data) }

func other(name, data string) api.File {
	return api.File{Name: name, Data: data, Synced: len(data)}
}

// of is a disk that never fails.
func of(files ...api.File) api.Disk { return api.Disk{Files: files, Fuse: -1, Fault: -1} }

func records(from uint64, l ...string) []api.Record {
	var out []api.Record
	for i, data := range l {
		out = append(out, api.Record{Seq: from + uint64(i), Data: data})
	}
	return out
}

// logOf is one of files of so many bytes.
func logOf(d api.Disk, size int, from, next uint64) api.Log {
	return api.Log{Disk: d, Size: size, From: from, Next: next}
}

func sameDisk(a, b api.Disk) bool {
	return slices.Equal(a.Files, b.Files) && a.Down == b.Down && a.Fuse == b.Fuse && a.Fault == b.Fault
}

func same(a, b api.Log) bool {
	return sameDisk(a.Disk, b.Disk) && a.Size == b.Size && a.From == b.From && a.Next == b.Next && a.Broken == b.Broken
}

func brief(s string) string {
	if len(s) > 60 {
		return strconv.Quote(s[:60]) + ".. of " + strconv.Itoa(len(s))
	}
	return strconv.Quote(s)
}

func shownDisk(d api.Disk) string {
	var l []string
	for _, f := range d.Files[:min(len(d.Files), 8)] {
		l = append(l, f.Name+" "+brief(f.Data)+" "+strconv.Itoa(f.Synced))
	}
	return fmt.Sprintf("[%s] of %d, Down %v, Fuse %d, Fault %d", strings.Join(l, ", "), len(d.Files), d.Down, d.Fuse, d.Fault)
}

func shown(l api.Log) string {
	return fmt.Sprintf("%s, Size %d, From %d, Next %d, Broken %v", shownDisk(l.Disk), l.Size, l.From, l.Next, l.Broken)
}

func shownRecords(l []api.Record) string {
	s := strconv.Itoa(len(l)) + " records:"
	for _, r := range l[:min(len(l), 8)] {
		s += " " + strconv.FormatUint(r.Seq, 10) + " " + brief(r.Data)
	}
	return s
}

func checkLog(t *testing.T, name string, l api.Log, why api.Errno, want api.Log, wantWhy api.Errno) {
	t.Helper()
	if why != wantWhy || !same(l, want) {
		t.Errorf("%s: error %d, %s\nwant %d, %s", name, why, shown(l), wantWhy, shown(want))
	}
}

func checkRecords(t *testing.T, name string, l, want []api.Record) {
	t.Helper()
	if !slices.Equal(l, want) {
		t.Errorf("%s: %s\nwant %s", name, shownRecords(l), shownRecords(want))
	}
}

// checkOpen tells what an opening of d leaves and reads, and that one more leaves and reads the same (10.8), and so do Records.
func checkOpen(t *testing.T, name string, d, left api.Disk, from uint64, want []api.Record) api.Log {
	t.Helper()
	next := from + uint64(len(want))
	l, got, why := segment.Open(d, 100)
	checkLog(t, "Open of "+name, l, why, logOf(left, 100, from, next), api.OK)
	checkRecords(t, "Open of "+name, got, want)
	again, got, why := segment.Open(l.Disk, 100)
	checkLog(t, "Open once more of "+name, again, why, l, api.OK)
	checkRecords(t, "Open once more of "+name, got, want)
	got, why = segment.Records(l)
	if why != api.OK {
		t.Errorf("Records of %s: error %d", name, why)
	}
	checkRecords(t, "Records of "+name, got, want)
	return l
}

// checkSame tells that an opening of d changes nothing.
func checkSame(t *testing.T, name string, d api.Disk, from uint64, want []api.Record) {
	t.Helper()
	checkOpen(t, name, d, d, from, want)
}

// failing is d behind the steps, of which the one of that number is the first that fails, by a fault, or by the power that goes; ok, if none does.
func failing(d api.Disk, steps []api.DiskStep, at int, power bool) (start, left api.Disk, why api.Errno) {
	if power {
		d.Fuse = at
	} else {
		d.Fault = at
	}
	left = d
	for _, s := range steps {
		if left, why = disk.Do(left, s); why != api.OK {
			break
		}
	}
	return d, left, why
}

// checkSteps tells that what is done with a log of d does these steps with its disk, one behind the other, and hands on what fails.
func checkSteps(t *testing.T, name string, d api.Disk, steps []api.DiskStep, do func(api.Disk) (api.Log, api.Errno), done, broken api.Log) {
	t.Helper()
	for at := range len(steps) + 2 {
		for _, power := range []bool{false, true} {
			start, left, wantWhy := failing(d, steps, at, power)
			want := done
			if wantWhy != api.OK {
				want = broken
				want.Broken = true
			}
			want.Disk = left
			l, why := do(start)
			checkLog(t, fmt.Sprintf("%s, failing at %d, by the power: %v", name, at, power), l, why, want, wantWhy)
			if (wantWhy == api.OK) != (at >= len(steps)) {
				t.Errorf("%s: error %d at %d of %d steps", name, wantWhy, at, len(steps))
			}
		}
	}
}

// found is what an opening does, as the tests have it.
type found struct {
	from, next uint64
	records    []api.Record
	steps      []api.DiskStep
}

var hexName = regexp.MustCompile("^[0-9a-f]{16}$")

func numbered(d api.Disk) (names []string, numbers []uint64) {
	for _, f := range d.Files {
		n, _ := strconv.ParseUint(f.Name, 16, 64)
		if hexName.MatchString(f.Name) && n <= most {
			names, numbers = append(names, f.Name), append(numbers, n)
		}
	}
	return names, numbers
}

// find is told by looking for the frames that would stand there.
func find(d api.Disk) found {
	names, numbers := numbered(d)
	x := found{from: 1, next: 1}
	ended := false
	var cuts []api.DiskStep
	for i, n := range numbers {
		if i == 0 {
			x.from, x.next = n, n
		}
		if ended || n != x.next {
			ended = true
			x.steps = slices.Insert(x.steps, 0, api.DiskStep{Kind: api.DiskRemove, Name: names[i]})
			continue
		}
		s, _ := disk.Read(d, names[i])
		size := 0
		for len(s) >= size+16 && x.next < most {
			length := int(binary.LittleEndian.Uint32([]byte(s[size:])))
			if length > 65536 || size+16+length > len(s) || framed(x.next, s[size+16:size+16+length]) != s[size:size+16+length] {
				break
			}
			x.records = append(x.records, api.Record{Seq: x.next, Data: s[size+16 : size+16+length]})
			size += 16 + length
			x.next++
		}
		if size < len(s) {
			ended = true
			cuts = append(cuts, api.DiskStep{Kind: api.DiskCut, Name: names[i], Size: size})
		}
	}
	x.steps = append(x.steps, cuts...)
	return x
}

func pick[T any](r *rand.Rand, l ...T) T { return l[r.IntN(len(l))] }

func someText(r *rand.Rand) string {
	b := make([]byte, pick(r, 0, 1, r.IntN(5), r.IntN(40)))
	for i := range b {
		b[i] = byte(r.IntN(256))
	}
	return string(b)
}

// someFiles are mostly a log's, something in them being wrong.
func someFiles(r *rand.Rand) api.Disk {
	d := of()
	n := pick(r, 0, 1, 1, 2, 9, most-3, most-1, most)
	for range r.IntN(6) {
		s, first := "", n
		for range r.IntN(4) {
			part := framed(n, someText(r))
			if r.IntN(12) == 0 {
				at := r.IntN(len(part))
				part = pick(r, part[:at], part[:at]+"x"+part[at+1:], framed(n+uint64(r.IntN(3))-1, "y"), "")
			}
			s += part
			n++
		}
		if r.IntN(9) == 0 {
			n += uint64(r.IntN(3))
		}
		if n > first || r.IntN(2) == 0 {
			d.Files = append(d.Files, file(first, s))
		}
		n = max(n, first+1-uint64(r.IntN(2)))
	}
	if r.IntN(3) == 0 {
		d.Files = append(d.Files, other(pick(r, "0", "a", "000000000000000A", "lock", nameOf(most+1)), someText(r)))
	}
	slices.SortFunc(d.Files, func(a, b api.File) int { return strings.Compare(a.Name, b.Name) })
	d.Files = slices.CompactFunc(d.Files, func(a, b api.File) bool { return a.Name == b.Name })
	return d
}
