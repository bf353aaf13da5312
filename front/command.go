package front

import (
	"slices"
	"strconv"
	"strings"

	"penstock/api"
	"penstock/fail"
)

// field is one of a move's that is a word of its line: how it is read of that, written, and taken over from another move.
type field struct {
	read  func(*api.Move, string)
	write func(api.Move) string
	copy  func(*api.Move, api.Move)
}

// fieldOf is that which stands at a place of a move.
func fieldOf[T any](place func(*api.Move) *T, read func(string) T, write func(T) string) field {
	return field{
		read:  func(m *api.Move, w string) { *place(m) = read(w) },
		write: func(m api.Move) string { return write(*place(&m)) },
		copy:  func(to *api.Move, from api.Move) { *place(to) = *place(&from) },
	}
}

// command is of the lines that begin with a word: the kind of their moves, how what stands behind the word is read, and written, and a move with nothing but what that says.
type command struct {
	kind  api.MoveKind
	read  func(*api.Move, []string)
	write func(*writer, api.Move)
	bare  func(api.Move) api.Move
}

// at is the word of the lines that are no moves.
const at = "at"

func commands() map[string]command {
	line := fieldOf(func(m *api.Move) *int { return &m.Line }, small, strconv.Itoa)
	exporter := fieldOf(func(m *api.Move) *int { return &m.Exporter }, small, strconv.Itoa)
	status := fieldOf(func(m *api.Move) *int { return &m.Status }, small, strconv.Itoa)
	now := fieldOf(func(m *api.Move) *uint64 { return &m.Now }, great, written)
	seq := fieldOf(func(m *api.Move) *uint64 { return &m.Seq }, great, written)
	text := fieldOf(func(m *api.Move) *string { return &m.Text }, unworded, Word)
	return map[string]command{
		at:        of(api.MoveNone, now),
		"connect": of(api.MoveConnect, text),
		"feed":    of(api.MoveFeed, line, text),
		"look":    of(api.MoveLook, line),
		"take":    of(api.MoveTake, line),
		"tick":    of(api.MoveTick),
		"send":    of(api.MoveSend, exporter),
		"reply":   of(api.MoveReply, exporter, seq, status, text),
		"stop":    of(api.MoveStop),
		"crash":   {api.MoveCrash, readKeeps, (*writer).keeps, bareKeeps},
	}
}

// of is a command whose words are these fields.
func of(kind api.MoveKind, l ...field) command {
	return command{
		kind: kind,
		read: func(m *api.Move, words []string) {
			fail.Unless(len(words) == len(l), api.ErrConf)
			for i, f := range l {
				f.read(m, words[i])
			}
		},
		write: func(w *writer, m api.Move) {
			for _, f := range l {
				w.put(" ")
				w.put(f.write(m))
			}
		},
		bare: func(m api.Move) api.Move {
			var out api.Move
			for _, f := range l {
				f.copy(&out, m)
			}
			return out
		},
	}
}

func readKeeps(m *api.Move, words []string) {
	for _, w := range words {
		var l []int
		for n := range strings.SplitSeq(w, ",") {
			l = append(l, small(n))
		}
		m.Keeps = append(m.Keeps, l)
	}
}

func (w *writer) keeps(m api.Move) {
	for _, l := range m.Keeps {
		ahead := " "
		for _, n := range l {
			w.put(ahead)
			w.put(strconv.Itoa(n))
			ahead = ","
		}
	}
}

func bareKeeps(m api.Move) api.Move {
	return api.Move{Keeps: m.Keeps}
}

// isMove tells whether m is right.
func isMove(m api.Move, known map[string]command) bool {
	c, is := known[wordOf(m.Kind, known)]
	return is && m.Kind != api.MoveNone && areSame(c.bare(m), m) &&
		isGreat(m.Now) && isGreat(m.Seq) && isSmall(m.Line) && isSmall(m.Exporter) && isSmall(m.Status) && !slices.ContainsFunc(m.Keeps, isNoList)
}

func isNoList(l []int) bool {
	return len(l) == 0 || !isSmall(slices.Min(l)) || !isSmall(slices.Max(l))
}

// areSame tells whether the fields are that not all kinds have.
func areSame(a, b api.Move) bool {
	return a.Line == b.Line && a.Text == b.Text && a.Exporter == b.Exporter && a.Seq == b.Seq && a.Status == b.Status && slices.EqualFunc(a.Keeps, b.Keeps, slices.Equal)
}

// wordOf is that with which lines of a kind of moves begin, if there is one.
func wordOf(kind api.MoveKind, known map[string]command) string {
	for word, c := range known { // no two have one kind: whichever comes first, the answer is one
		if c.kind == kind {
			return word
		}
	}
	return ""
}
