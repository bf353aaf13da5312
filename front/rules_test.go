package front_test

import (
	"fmt"
	"math/rand/v2"
	"reflect"
	"runtime"
	"strings"
	"testing"

	"penstock/api"
	"penstock/front"
)

// all is what all calls answer.
type all struct {
	Words, Texts []string
	Moves        [][]api.Move
	Whys         []api.Errno
	Lines        []int
}

func answers(scripts []string, moves [][]api.Move) all {
	var out all
	for _, s := range scripts {
		text, _ := front.Unword(s)
		out.Words = append(out.Words, front.Word(s), text)
		l, why, line := front.Parse(s)
		out.Moves, out.Whys, out.Lines = append(out.Moves, l), append(out.Whys, why), append(out.Lines, line)
		for _, config := range []string{simple, rich, "x"} {
			told, why, line := front.Run(config, s)
			out.Texts, out.Whys, out.Lines = append(out.Texts, told), append(out.Whys, why), append(out.Lines, line)
		}
	}
	for _, l := range moves {
		s, why := front.Print(l)
		out.Texts, out.Whys = append(out.Texts, s), append(out.Whys, why)
	}
	return out
}

// someHanded are scripts, and moves, some of which are wrong.
func someHanded() ([]string, [][]api.Move) {
	r := rand.New(rand.NewPCG(20, 4))
	scripts := []string{"crash 1,2 3 4,5\ncrash 1,2 3 4,5\n", "x", "", "tick\nat 5\nlook 1\n", "at 5\nat 3\n", anyScript(r, 30), anyScript(r, 30)}
	moves := [][]api.Move{nil, {{}}, anyMoves(r, 20), anyMoves(r, 30), {{Kind: api.MoveCrash, Keeps: [][]int{{1, 2}, {3}}}, {Kind: api.MoveCrash, Keeps: [][]int{{}}}}}
	return scripts, twin(moves)
}

func TestP204NewMemory(t *testing.T) {
	scripts, moves := someHanded()
	before := twin(moves)
	first, second := answers(scripts, moves), answers(scripts, moves)
	if !same(moves, before) {
		t.Error("what was handed in is changed")
	}
	checkApart(t, "all calls", first, second, moves)
	want := twin(second)
	for _, x := range []any{first, moves} {
		eachCell(reflect.ValueOf(x), func(v reflect.Value) { v.SetZero() })
	}
	if !same(second, want) {
		t.Error("what was handed in, or an earlier answer, is kept")
	}
}

// TestP204Room has room behind what is handed in, which stays as it is.
func TestP204Room(t *testing.T) {
	l := append(make([]api.Move, 0, 9), api.Move{Kind: api.MoveCrash, Keeps: append(make([][]int, 0, 9), append(make([]int, 0, 9), 5))})
	checkPrint(t, l, "crash 5\n", api.OK)
	checkPrint(t, append(l, api.Move{Kind: api.MoveTick, Now: 3}), "crash 5\nat 3\ntick\n", api.OK)
	if room := l[0].Keeps[:9]; len(room[1]) > 0 || room[0][:9][1] != 0 || !same(l[:9][2], api.Move{}) {
		t.Error("the room behind what was handed in is changed")
	}
}

// TestP1AndP2Anything has any texts for scripts and configs.
func TestP1AndP2Anything(t *testing.T) {
	r := rand.New(rand.NewPCG(20, 12))
	had := map[api.Errno]int{}
	for range 3000 {
		s := anyScript(r, r.IntN(6))
		config := pick(r, simple, rich)
		for range r.IntN(3) {
			s = worn(r, s)
		}
		if r.IntN(2) == 0 {
			config = worn(r, config)
		}
		l, why, line := front.Parse(s)
		if why != api.OK && (len(l) > 0 || line < 1) || why == api.OK && line != 0 {
			t.Errorf("Parse of %s: %s, error %d, line %d", brief(s), brief(l), why, line)
		}
		told, whyRun, line := front.Run(config, s)
		if whyRun != api.OK && told != "" || whyRun == api.OK && (why != api.OK || line != 0 || !strings.HasSuffix(told, "\n")) {
			t.Errorf("Run of %s: %s, error %d, line %d", brief(s), brief(told), whyRun, line)
		}
		had[why]++
		had[whyRun]++
	}
	if min(had[api.OK], had[api.ErrConf]) < 500 || had[api.ErrUnknown] < 5 {
		t.Errorf("errors %v", had)
	}
}

// TestP1Great has many moves, of which much comes.
func TestP1Great(t *testing.T) {
	script := "connect r\nfeed 1 " + wordOf(post(strings.Fields(strings.Repeat("x ", 700))...)) + "\nlook 1\n"
	for i := range 400 {
		script += fmt.Sprintf("at %d\nsend 0\nreply 0 1 503 -\n", (i+1)*1000)
	}
	s, why, line := front.Run(strings.Replace(simple, "  e:\n", "  e:\n    total: 0s\n", 1), script)
	if why != api.OK || !strings.HasSuffix(s, "\nok 0 -\nheld 700\n") || strings.Count(s, "\nok 1 POST%20/v1/logs") != 400 {
		t.Errorf("Run: error %d, line %d, %d bytes", why, line, len(s))
	}
	checkPrint(t, []api.Move{{Kind: api.MoveReply, Text: strings.Repeat("%", 1<<26)}}, "", api.ErrLong)
	if s, is := front.Unword(strings.Repeat("%20", 1<<20)); len(s) != 1<<20 || !is {
		t.Errorf("Unword of much: %d bytes, %v", len(s), is)
	}
}

func TestP3AndP4AlwaysTheSame(t *testing.T) {
	before := runtime.NumGoroutine()
	scripts, moves := someHanded()
	want := answers(scripts, moves)
	for range 30 {
		if !same(answers(scripts, twin(moves)), want) {
			t.Fatal("the same is answered otherwise")
		}
	}
	for range 1000 { // one that is joined may still be on its way out
		if runtime.NumGoroutine() <= before {
			return
		}
		runtime.Gosched()
	}
	t.Errorf("%d goroutines are left", runtime.NumGoroutine()-before)
}
