package conf

import (
	"iter"
	"strings"

	"penstock/api"
	"penstock/fail"
)

// comment is what one begins with behind something.
const comment = " #"

// lines yields those that say something, and their numbers.
func lines(s string) iter.Seq2[int, string] {
	return func(yield func(int, string) bool) {
		number := 0
		for text := range strings.SplitSeq(s, "\n") {
			number++
			if says(text) && !yield(number, text) {
				return
			}
		}
	}
}

func says(text string) bool {
	s := strings.TrimLeft(text, " ")
	return s != "" && s[0] != '#'
}

// line is a key, and what stands behind it: a map without keys, if that is nothing.
type line struct {
	indent int
	key    string
	node   api.Node
}

// read is the line that text is, which panics with ErrConf, if it is none.
func read(text string) line {
	c := cursor{text}
	l := line{indent: c.spaces(), key: c.until(":")}
	fail.Unless(isKey(l.key), api.ErrConf)
	c.sign(':')
	if c.left == "" {
		return l
	}
	fail.Unless(c.spaces() > 0, api.ErrConf)
	if c.left == "" || c.at('#') {
		return l
	}
	l.node = c.value()
	apart := c.spaces() > 0
	fail.Unless(c.left == "" || apart && c.at('#'), api.ErrConf)
	return l
}

// cursor is what is left of a line. Its methods panic with ErrConf, where something else stands there.
type cursor struct{ left string }

func (c *cursor) at(b byte) bool {
	return c.left != "" && c.left[0] == b
}

// take is the next n bytes, which are there.
func (c *cursor) take(n int) string {
	s := c.left[:n]
	c.left = c.left[n:]
	return s
}

func (c *cursor) next() byte {
	fail.Unless(c.left != "", api.ErrConf)
	return c.take(1)[0]
}

func (c *cursor) sign(b byte) {
	fail.Unless(c.next() == b, api.ErrConf)
}

// spaces takes those that stand there, and counts them.
func (c *cursor) spaces() int {
	size := len(c.left)
	c.left = strings.TrimLeft(c.left, " ")
	return size - len(c.left)
}

// until is what stands ahead of the first one of these bytes, or all.
func (c *cursor) until(ends string) string {
	if at := strings.IndexAny(c.left, ends); at >= 0 {
		return c.take(at)
	}
	return c.take(len(c.left))
}

func (c *cursor) value() api.Node {
	switch {
	case c.at('"'):
		return api.Node{Kind: api.NodeText, Text: c.quoted()}
	case c.at('['):
		return api.Node{Kind: api.NodeList, List: c.list()}
	}
	return api.Node{Kind: api.NodeText, Text: c.plain()}
}

func (c *cursor) plain() string {
	s, _, _ := strings.Cut(c.left, comment)
	s = c.take(len(strings.TrimRight(s, " ")))
	fail.Unless(isPlain(s), api.ErrConf)
	return s
}

func (c *cursor) quoted() string {
	c.sign('"')
	var text strings.Builder
	for b := c.next(); b != '"'; b = c.next() {
		fail.Unless(!isControl(rune(b)), api.ErrConf)
		if b == '\\' {
			b = unescaped(c.next())
		}
		text.WriteByte(b)
	}
	return text.String()
}

func unescaped(b byte) byte {
	at := strings.IndexByte(escapes, b)
	fail.Unless(at >= 0, api.ErrConf)
	return meant[at]
}

func (c *cursor) list() []string {
	c.sign('[')
	c.spaces()
	if c.at(']') {
		c.sign(']')
		return nil
	}
	l := []string{c.item()}
	for c.at(',') {
		c.sign(',')
		l = append(l, c.item())
	}
	c.sign(']')
	return l
}

func (c *cursor) item() string {
	c.spaces()
	s := c.quotedOrWord()
	c.spaces()
	return s
}

func (c *cursor) quotedOrWord() string {
	if c.at('"') {
		return c.quoted()
	}
	s := c.until(specials + " :")
	fail.Unless(isWord(s), api.ErrConf)
	return s
}
