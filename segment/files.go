package segment

import (
	"slices"
	"strconv"

	"penstock/api"
)

const (
	mostNumber = 1 << 62 // no record has it: it is the number to come behind the last one that may be
	firstFrom  = 1
	digits     = 16
)

// file is one of the log: its name is its number's.
type file struct {
	api.File
	number uint64
}

// files are those of d that are of a log, in order.
func files(d api.Disk) []file {
	var l []file
	for _, f := range d.Files {
		if n, is := number(f.Name); is {
			l = append(l, file{File: f, number: n})
		}
	}
	return l
}

// name is by which a file that begins with that number goes.
func name(n uint64) string {
	b := [digits]byte{}
	for i := range digits {
		b[digits-1-i] = "0123456789abcdef"[n>>(4*i)&15]
	}
	return string(b[:])
}

func number(s string) (uint64, bool) {
	n, fault := strconv.ParseUint(s, 16, 64)
	if fault != nil || n > mostNumber || name(n) != s { // other texts may be of the number, too
		return 0, false
	}
	return n, true
}

// contents is what the files of a disk have: records from a number up to another one, and what must be done, so that there is nothing else.
type contents struct {
	from, next uint64
	records    []api.Record
	mends      []api.DiskStep
}

func read(d api.Disk) contents {
	l := files(d)
	c := contents{from: firstFrom}
	if len(l) > 0 {
		c.from = l[0].number
	}
	c.next = c.from
	var cut []api.DiskStep
	for len(cut) == 0 && len(l) > 0 && l[0].number == c.next {
		size := c.add(l[0])
		if size < len(l[0].Data) {
			cut = []api.DiskStep{{Kind: api.DiskCut, Name: l[0].Name, Size: size}}
		}
		l = l[1:]
	}
	for _, f := range slices.Backward(l) {
		c.mends = append(c.mends, removal(f))
	}
	c.mends = append(c.mends, cut...) // last, since what is cut may make a file behind it the one to come
	return c
}

// add puts the records of f behind those that there are, and counts the bytes of their frames.
func (c *contents) add(f file) int {
	size := 0
	for r := range frames(f.Data, c.next) {
		c.records = append(c.records, r)
		c.next = r.Seq + 1
		size += headSize + len(r.Data)
	}
	return size
}

func isSize(n int) bool {
	return n >= 1 && n <= api.MaxFile
}
