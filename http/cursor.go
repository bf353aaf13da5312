package http

import (
	"strconv"
	"strings"

	"penstock/api"
	"penstock/fail"
)

// cursor is what is left of the bytes, and how many a body may have. Its methods panic with an error's number, so that none of them has to hand one on.
type cursor struct {
	left string
	most int
}

// framing is the values of the heads that say how long a body is.
type framing struct{ lengths, codings []string }

// mustSay is for what has no length of its own, if no head tells it.
func (f framing) mustSay() {
	fail.Unless(len(f.lengths)+len(f.codings) > 0, api.ErrHttp)
}

// read does what is handed in with a cursor on s, and counts the bytes that it took.
func read(s string, most int, do func(*cursor)) (int, api.Errno) {
	size := 0
	why := fail.Caught(func() {
		fail.Unless(most >= 0 && most <= api.MaxBytes, api.ErrRange)
		c := cursor{left: s, most: most}
		do(&c)
		size = len(s) - len(c.left)
	})
	return size, why
}

// take is the next n bytes, which are there.
func (c *cursor) take(n int) string {
	s := c.left[:n]
	c.left = c.left[n:]
	return s
}

// line is the next line, without what ends it.
func (c *cursor) line() string {
	const room = api.MaxLine + len(lineEnd)
	at := strings.IndexByte(c.left[:min(len(c.left), room)], '\n')
	fail.Unless(at >= 0 || len(c.left) < room, api.ErrLong)
	fail.Unless(at >= 0, api.ErrMore)
	s, is := strings.CutSuffix(c.take(at+1), lineEnd)
	fail.Unless(is, api.ErrHttp)
	return s
}

func (c *cursor) requestLine() (method, target string) {
	method, others, _ := strings.Cut(c.line(), " ")
	target, last, _ := strings.Cut(others, " ")
	fail.Unless(isOf(method, inToken) && isOf(target, inTarget) && last == version, api.ErrHttp)
	return method, target
}

func (c *cursor) statusLine() int {
	const digits = 3
	s, is := strings.CutPrefix(c.line(), version+" ")
	number, _, ends := strings.Cut(s, " ") // behind that any reason may stand
	fail.Unless(is && ends && len(number) == digits, api.ErrHttp)
	status := int(whole(number, 10, digits))
	fail.Unless(isStatus(status), api.ErrHttp)
	return status
}

// heads is those up to the empty line, those of framing apart.
func (c *cursor) heads() ([]api.Head, framing) {
	var l []api.Head
	var f framing
	isLength, isCoding := named(length), named(coding)
	for line := c.line(); line != ""; line = c.line() {
		h := head(line)
		switch {
		case isLength(h):
			f.lengths = append(f.lengths, h.Value)
		case isCoding(h):
			f.codings = append(f.codings, h.Value)
		default:
			fail.Unless(len(l) < api.MaxHeads, api.ErrLong)
			l = append(l, h)
		}
	}
	return l, f
}

func head(line string) api.Head {
	name, value, is := strings.Cut(line, ":")
	value = strings.Trim(value, blanks)
	fail.Unless(is && isOf(name, inToken) && isValue(value), api.ErrHttp)
	return api.Head{Name: name, Value: value}
}

// body is none, if no head tells how long it is.
func (c *cursor) body(f framing) string {
	const digits = 9
	switch {
	case len(f.codings) > 0:
		fail.Unless(len(f.codings) == 1 && alike(f.codings[0], chunked) && len(f.lengths) == 0, api.ErrHttp)
		return c.chunks()
	case len(f.lengths) > 0:
		fail.Unless(len(f.lengths) == 1, api.ErrHttp)
		return c.part(whole(f.lengths[0], 10, digits), 0)
	}
	return ""
}

// part is the next n bytes of a body that has so many already.
func (c *cursor) part(n uint64, already int) string {
	fail.Unless(n <= uint64(c.most-already), api.ErrLong)
	fail.Unless(n <= uint64(len(c.left)), api.ErrMore)
	return c.take(int(n))
}

func (c *cursor) chunks() string {
	var body strings.Builder
	for n := c.chunkSize(); n > 0; n = c.chunkSize() {
		body.WriteString(c.part(n, body.Len()))
		c.end()
	}
	c.heads() // they are no matter, but must be some
	return body.String()
}

func (c *cursor) chunkSize() uint64 {
	const digits = 8
	number, _, _ := strings.Cut(c.line(), ";")
	return whole(number, 16, digits)
}

// end is read byte by byte: the first one may be wrong, ahead of the second one being there.
func (c *cursor) end() {
	for i := range len(lineEnd) {
		fail.Unless(c.left != "", api.ErrMore)
		fail.Unless(c.take(1)[0] == lineEnd[i], api.ErrHttp)
	}
}

// whole is the number that s is, of one digit to so many.
func whole(s string, base, digits int) uint64 {
	n, fault := strconv.ParseUint(s, base, 64)
	fail.Unless(fault == nil && len(s) <= digits, api.ErrHttp)
	return n
}
