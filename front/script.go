package front

import (
	"iter"
	"strings"

	"penstock/api"
	"penstock/fail"
)

const lineEnd = "\n"

// lines yields those of t, each with its end, if it has one, and their numbers.
func lines(t string) iter.Seq2[int, string] {
	return func(yield func(int, string) bool) {
		number := 0
		for line := range strings.Lines(t) {
			number++
			if !yield(number, line) {
				return
			}
		}
	}
}

// script is one that is being read, and the time from here on.
type script struct {
	known map[string]command
	now   uint64
	moves []api.Move
}

// add reads a line; it panics with the error.
func (s *script) add(line string) {
	line, ends := strings.CutSuffix(line, lineEnd)
	words := strings.Split(line, " ")
	c, is := s.known[words[0]]
	fail.Unless(ends && is, api.ErrConf)
	m := api.Move{Kind: c.kind, Now: s.now}
	c.read(&m, words[1:])
	if words[0] == at {
		fail.Unless(m.Now >= s.now, api.ErrConf)
		s.now = m.Now
		return
	}
	fail.Unless(len(s.moves) < api.MaxSteps, api.ErrMany)
	s.moves = append(s.moves, m)
}

// checkMoves panics with ErrConf, if l is not right.
func checkMoves(l []api.Move, known map[string]command) {
	fail.Unless(len(l) <= api.MaxSteps, api.ErrConf)
	now := uint64(0)
	for _, m := range l {
		fail.Unless(m.Now >= now && isMove(m, known), api.ErrConf)
		now = m.Now
	}
}

// writer has a script's lines; it panics with ErrLong, once they are too long.
type writer struct {
	strings.Builder
	known map[string]command
}

func (w *writer) put(s string) {
	w.WriteString(s)
	fail.Unless(w.Len() <= api.MaxScript, api.ErrLong)
}

// moves writes those of l, which are right.
func (w *writer) moves(l []api.Move) {
	now := uint64(0)
	for _, m := range l {
		if m.Now != now {
			w.line(at, m)
		}
		now = m.Now
		w.line(wordOf(m.Kind, w.known), m)
	}
}

func (w *writer) line(word string, m api.Move) {
	fail.Unless(len(m.Text) <= api.MaxScript, api.ErrLong) // its word is no shorter
	w.put(word)
	w.known[word].write(w, m)
	w.put(lineEnd)
}
