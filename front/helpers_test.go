package front_test

import (
	"fmt"
	"math/rand/v2"
	"reflect"
	"regexp"
	"strconv"
	"strings"
	"testing"

	"penstock/api"
	"penstock/collect"
	"penstock/conf"
	"penstock/front"
	"penstock/graph"
)

const (
	most      = 1 << 62
	mostSmall = 1<<31 - 1
)

func brief(x any) string {
	s := fmt.Sprintf("%+q", x)
	if len(s) > 1500 {
		s = s[:800] + " .. " + s[len(s)-600:]
	}
	return s
}

func pick[T any](r *rand.Rand, l ...T) T { return l[r.IntN(len(l))] }

// same holds a and b against each other, nil lists as empty ones.
func same(a, b any) bool { return sameOf(reflect.ValueOf(a), reflect.ValueOf(b)) }

func sameOf(a, b reflect.Value) bool {
	switch a.Kind() {
	case reflect.Struct:
		for i := range a.NumField() {
			if !sameOf(a.Field(i), b.Field(i)) {
				return false
			}
		}
		return true
	case reflect.Slice:
		for i := range min(a.Len(), b.Len()) {
			if !sameOf(a.Index(i), b.Index(i)) {
				return false
			}
		}
		return a.Len() == b.Len()
	}
	return a.Interface() == b.Interface()
}

// twin is x with memory of its own, and room behind its lists.
func twin[T any](x T) T {
	out := reflect.New(reflect.TypeFor[T]()).Elem()
	twinOf(out, reflect.ValueOf(x))
	return out.Interface().(T)
}

func twinOf(to, from reflect.Value) {
	switch from.Kind() {
	case reflect.Struct:
		for i := range from.NumField() {
			twinOf(to.Field(i), from.Field(i))
		}
	case reflect.Slice:
		to.Set(reflect.MakeSlice(from.Type(), from.Len(), from.Len()+2))
		for i := range from.Len() {
			twinOf(to.Index(i), from.Index(i))
		}
	default:
		to.Set(from)
	}
}

// eachCell hands in each element of each list of x, however deep, and the room behind.
func eachCell(x reflect.Value, do func(reflect.Value)) {
	switch x.Kind() {
	case reflect.Struct:
		for i := range x.NumField() {
			eachCell(x.Field(i), do)
		}
	case reflect.Slice:
		all := x.Slice(0, x.Cap())
		for i := range all.Len() {
			eachCell(all.Index(i), do)
			do(all.Index(i))
		}
	}
}

// checkApart tells whether a cell is there twice.
func checkApart(t *testing.T, name string, all ...any) {
	t.Helper()
	type cell struct {
		at uintptr
		of reflect.Type
	}
	taken := map[cell]int{}
	for _, x := range all {
		eachCell(reflect.ValueOf(x), func(v reflect.Value) {
			at := cell{v.Addr().Pointer(), v.Type()}
			if taken[at]++; taken[at] == 2 {
				t.Errorf("%s: lists of %v share memory", name, v.Type())
			}
		})
	}
}

func checkParse(t *testing.T, script string, want []api.Move, wantWhy api.Errno, wantLine int) {
	t.Helper()
	l, why, line := front.Parse(script)
	if !same(l, want) || why != wantWhy || line != wantLine {
		t.Errorf("Parse of %s: %s, error %d, line %d\nwant %s, error %d, line %d", brief(script), brief(l), why, line, brief(want), wantWhy, wantLine)
	}
}

func checkPrint(t *testing.T, l []api.Move, want string, wantWhy api.Errno) {
	t.Helper()
	s, why := front.Print(l)
	if s != want || why != wantWhy {
		t.Errorf("Print of %s: %s, error %d\nwant %s, error %d", brief(l), brief(s), why, brief(want), wantWhy)
	}
}

func checkRun(t *testing.T, config, script, want string, wantWhy api.Errno, wantLine int) {
	t.Helper()
	s, why, line := front.Run(config, script)
	if s != want || why != wantWhy || line != wantLine {
		t.Errorf("Run of %s: %s, error %d, line %d\nwant %s, error %d, line %d", brief(script), brief(s), why, line, brief(want), wantWhy, wantLine)
	}
}

var plain = regexp.MustCompile(`^[A-Za-z0-9_./:*]$`)

// wordOf is the word of a text, as the chapter tells of it.
func wordOf(s string) string {
	if s == "" {
		return "-"
	}
	var out strings.Builder
	for _, b := range []byte(s) {
		if plain.Match([]byte{b}) {
			out.WriteByte(b)
		} else {
			fmt.Fprintf(&out, "%%%02X", b)
		}
	}
	return out.String()
}

var (
	firstWord = regexp.MustCompile("^[a-z]*")
	rests     = patterns()
)

// patterns are of what stands behind a line's first word.
func patterns() map[string]*regexp.Regexp {
	const number, word = `(0|[1-9][0-9]*)`, `(-|(?:[A-Za-z0-9_./:*]|%[0-9A-F]{2})+)`
	out := map[string]*regexp.Regexp{}
	for k, s := range map[string]string{
		"at": " " + number, "connect": " " + word, "feed": " " + number + " " + word, "look": " " + number, "take": " " + number, "tick": "", "send": " " + number,
		"reply": " " + number + " " + number + " " + number + " " + word, "stop": "", "crash": "((?: [0-9,]+)*)",
	} {
		out[k] = regexp.MustCompile("^" + s + "\n$")
	}
	return out
}

// numberOf is that of digits, if it is at most so great.
func numberOf(s string, most uint64) (uint64, bool) {
	n, fault := strconv.ParseUint(s, 10, 64)
	return n, fault == nil && n <= most && (s == "0" || s[0] != '0')
}

// textOf is that of a word that looks like one; a % of a byte that needs none is a fault.
func textOf(w string) (string, bool) {
	var out []byte
	for i := 0; i < len(w) && w != "-"; i++ {
		if w[i] != '%' {
			out = append(out, w[i])
			continue
		}
		n, _ := strconv.ParseUint(w[i+1:i+3], 16, 8)
		out = append(out, byte(n))
		i += 2
	}
	return string(out), wordOf(string(out)) == w
}

// lineOf is what a line says: a move, of kind 0 of an at; false, if it is no line.
func lineOf(s string) (api.Move, bool) {
	var m api.Move
	word := firstWord.FindString(s)
	p := rests[word]
	if p == nil {
		return m, false
	}
	l := p.FindStringSubmatch(s[len(word):])
	if l == nil {
		return m, false
	}
	ok := true
	small := func(i int) int {
		n, is := numberOf(l[i], mostSmall)
		ok = ok && is
		return int(n)
	}
	great := func(i int) uint64 {
		n, is := numberOf(l[i], most)
		ok = ok && is
		return n
	}
	text := func(i int) string {
		s, is := textOf(l[i])
		ok = ok && is
		return s
	}
	switch word {
	case "at":
		m.Now = great(1)
	case "connect":
		m = api.Move{Kind: api.MoveConnect, Text: text(1)}
	case "feed":
		m = api.Move{Kind: api.MoveFeed, Line: small(1), Text: text(2)}
	case "look":
		m = api.Move{Kind: api.MoveLook, Line: small(1)}
	case "take":
		m = api.Move{Kind: api.MoveTake, Line: small(1)}
	case "tick":
		m.Kind = api.MoveTick
	case "send":
		m = api.Move{Kind: api.MoveSend, Exporter: small(1)}
	case "reply":
		m = api.Move{Kind: api.MoveReply, Exporter: small(1), Seq: great(2), Status: small(3), Text: text(4)}
	case "stop":
		m.Kind = api.MoveStop
	case "crash":
		m.Kind = api.MoveCrash
		m.Keeps, ok = keepsOf(l[1])
	}
	return m, ok
}

func keepsOf(s string) ([][]int, bool) {
	var out [][]int
	for _, list := range strings.Fields(s) {
		var l []int
		for _, w := range strings.Split(list, ",") {
			n, is := numberOf(w, mostSmall)
			if !is {
				return nil, false
			}
			l = append(l, int(n))
		}
		out = append(out, l)
	}
	return out, true
}

// parsed is what Parse answers, line by line.
func parsed(s string) ([]api.Move, api.Errno, int) {
	if len(s) > api.MaxScript {
		return nil, api.ErrLong, 0
	}
	var l []api.Move
	now := uint64(0)
	for i, line := range strings.SplitAfter(s, "\n") {
		if line == "" { // behind the last LF
			continue
		}
		m, is := lineOf(line)
		if !is || m.Kind == api.MoveNone && m.Now < now {
			return nil, api.ErrConf, i + 1
		}
		if m.Kind == api.MoveNone {
			now = m.Now
			continue
		}
		if len(l) == api.MaxSteps {
			return nil, api.ErrMany, i + 1
		}
		m.Now = now
		l = append(l, m)
	}
	return l, api.OK, 0
}

// isRight tells whether m is a right move, kind by kind.
func isRight(m api.Move) bool {
	isSmall := func(n int) bool { return n >= 0 && n <= mostSmall }
	for _, l := range m.Keeps {
		if len(l) == 0 {
			return false
		}
		for _, n := range l {
			if !isSmall(n) {
				return false
			}
		}
	}
	if m.Now > most || m.Seq > most || !isSmall(m.Line) || !isSmall(m.Exporter) || !isSmall(m.Status) {
		return false
	}
	bare := m // without the fields that it has
	bare.Kind, bare.Now = 0, 0
	switch m.Kind {
	case api.MoveConnect:
		bare.Text = ""
	case api.MoveFeed:
		bare.Line, bare.Text = 0, ""
	case api.MoveLook, api.MoveTake:
		bare.Line = 0
	case api.MoveTick, api.MoveStop:
	case api.MoveSend:
		bare.Exporter = 0
	case api.MoveReply:
		bare.Exporter, bare.Seq, bare.Status, bare.Text = 0, 0, 0, ""
	case api.MoveCrash:
		bare.Keeps = nil
	default:
		return false
	}
	return same(bare, api.Move{})
}

// printed is what Print answers.
func printed(l []api.Move) (string, api.Errno) {
	s, now := "", uint64(0)
	if len(l) > api.MaxSteps {
		return "", api.ErrConf
	}
	for _, m := range l {
		if !isRight(m) || m.Now < now {
			return "", api.ErrConf
		}
		if m.Now > now {
			s += fmt.Sprintf("at %d\n", m.Now)
		}
		now = m.Now
		s += printedMove(m)
	}
	if len(s) > api.MaxScript {
		return "", api.ErrLong
	}
	return s, api.OK
}

func printedMove(m api.Move) string {
	switch m.Kind {
	case api.MoveConnect:
		return fmt.Sprintf("connect %s\n", wordOf(m.Text))
	case api.MoveFeed:
		return fmt.Sprintf("feed %d %s\n", m.Line, wordOf(m.Text))
	case api.MoveLook:
		return fmt.Sprintf("look %d\n", m.Line)
	case api.MoveTake:
		return fmt.Sprintf("take %d\n", m.Line)
	case api.MoveTick:
		return "tick\n"
	case api.MoveSend:
		return fmt.Sprintf("send %d\n", m.Exporter)
	case api.MoveReply:
		return fmt.Sprintf("reply %d %d %d %s\n", m.Exporter, m.Seq, m.Status, wordOf(m.Text))
	case api.MoveStop:
		return "stop\n"
	}
	s := "crash"
	for _, l := range m.Keeps {
		s += " " + strings.ReplaceAll(strings.Trim(fmt.Sprint(l), "[]"), " ", ",")
	}
	return s + "\n"
}

// ran is what Run answers of a config that is right, and of a script that is.
func ran(t *testing.T, config, script string) string {
	t.Helper()
	n, why, _ := conf.Parse(config)
	if why != api.OK {
		t.Fatalf("conf.Parse: error %d", why)
	}
	g, why := graph.Read(n)
	if why != api.OK {
		t.Fatalf("graph.Read: error %d", why)
	}
	var disks []api.Disk
	for range g.Exporters {
		disks = append(disks, api.Disk{Fuse: -1, Fault: -1})
	}
	c, why := collect.Open(g, api.Rules{MaxBody: 65536, Idle: 30000}, 10000, disks)
	l, whyParse, _ := front.Parse(script)
	if why != api.OK || whyParse != api.OK {
		t.Fatalf("Open: error %d, Parse: error %d", why, whyParse)
	}
	s := ""
	for _, m := range l {
		var out api.Out
		c, out, _ = collect.Do(c, m)
		s += fmt.Sprintf("%s %d %s\n", names()[out.Why], out.N, wordOf(out.Text))
	}
	held, _ := collect.Held(c)
	return s + fmt.Sprintf("held %d\n", held)
}

// names are the errors' names, as the chapter has them.
func names() map[api.Errno]string {
	return map[api.Errno]string{
		api.OK: "ok", api.ErrNil: "nil", api.ErrRange: "range", api.ErrMany: "many", api.ErrLong: "long", api.ErrType: "type", api.ErrState: "state", api.ErrUnknown: "unknown",
		api.ErrFull: "full", api.ErrVarint: "varint", api.ErrWire: "wire", api.ErrDepth: "depth", api.ErrUtf: "utf", api.ErrHttp: "http", api.ErrMore: "more", api.ErrConf: "conf",
		api.ErrCycle: "cycle", api.ErrDown: "down", api.ErrDisk: "disk", api.ErrLease: "lease",
	}
}
