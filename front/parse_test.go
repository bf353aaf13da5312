package front_test

import (
	"fmt"
	"math/rand/v2"
	"strconv"
	"strings"
	"testing"

	"penstock/api"
	"penstock/front"
)

// TestP202ParseLines has each kind of lines, at the edges of their numbers.
func TestP202ParseLines(t *testing.T) {
	for s, want := range map[string]api.Move{
		"connect r\n":               {Kind: api.MoveConnect, Text: "r"},
		"connect -\n":               {Kind: api.MoveConnect},
		"connect %2D\n":             {Kind: api.MoveConnect, Text: "-"},
		"connect a%20b\n":           {Kind: api.MoveConnect, Text: "a b"},
		"feed 0 -\n":                {Kind: api.MoveFeed},
		"feed 2147483647 x%0D%0A\n": {Kind: api.MoveFeed, Line: mostSmall, Text: "x\r\n"},
		"look 0\n":                  {Kind: api.MoveLook},
		"look 10\n":                 {Kind: api.MoveLook, Line: 10},
		"look 2147483647\n":         {Kind: api.MoveLook, Line: mostSmall},
		"take 2147483647\n":         {Kind: api.MoveTake, Line: mostSmall},
		"tick\n":                    {Kind: api.MoveTick},
		"send 0\n":                  {Kind: api.MoveSend},
		"send 2147483647\n":         {Kind: api.MoveSend, Exporter: mostSmall},
		"reply 0 0 0 -\n":           {Kind: api.MoveReply},
		"reply 1 2 3 4\n":           {Kind: api.MoveReply, Exporter: 1, Seq: 2, Status: 3, Text: "4"},
		"reply 2147483647 4611686018427387904 2147483647 %00\n": {Kind: api.MoveReply, Exporter: mostSmall, Seq: most, Status: mostSmall, Text: "\x00"},
		"stop\n":                              {Kind: api.MoveStop},
		"crash\n":                             {Kind: api.MoveCrash},
		"crash 0\n":                           {Kind: api.MoveCrash, Keeps: [][]int{{0}}},
		"crash 1,2,3\n":                       {Kind: api.MoveCrash, Keeps: [][]int{{1, 2, 3}}},
		"crash 1,0 2147483647 7 8,9\n":        {Kind: api.MoveCrash, Keeps: [][]int{{1, 0}, {mostSmall}, {7}, {8, 9}}},
		"at 5\ntick\n":                        {Kind: api.MoveTick, Now: 5},
		"at 0\ntick\n":                        {Kind: api.MoveTick},
		"at 4611686018427387904\nstop\n":      {Kind: api.MoveStop, Now: most},
		"at 4611686018427387903\nlook 7\n":    {Kind: api.MoveLook, Line: 7, Now: most - 1},
		"at 3\nat 3\nat 9\nconnect x\nat 9\n": {Kind: api.MoveConnect, Text: "x", Now: 9},
	} {
		checkParse(t, s, []api.Move{want}, api.OK, 0)
	}
}

// wrongLines are none, each for a reason.
func wrongLines() []string {
	l := []string{
		"", " ", "x", "CONNECT r", "Connect r", "connects r", "connect", "connect ", "connect  r", " connect r", "connect r ", "connect r s", "connect\tr", "connect r\r", "connect --", "connect a-b", "connect %41", "connect %2d", "connect %", "connect a,b", "connect \"r\"", "connect \xff",
		"feed", "feed 1", "feed 1 ", "feed r 1", "feed 1 a b", "feed  1 a", "feed 1  a", "feed 1,2 a", "feed -1 a", "feed - a",
		"look", "look ", "look r", "look -", "look 1 2", "take", "take 1 -", "take ,", "tick 1", "tick ", "tick -", "stop 0", "stop ", "stop -", "send", "send e", "send 1 1", "send 1 ",
		"reply", "reply 1 2 3", "reply 1 2 3 4 5", "reply 1 2 3 ", "reply 1 2 x 4", "reply 1 x 3 4", "reply x 2 3 4", "reply 1 2  4", "reply 1 2 3 %", "reply 1,2 3 4",
		"crash ", "crash  1", "crash 1 ", "crash 1  2", "crash ,", "crash 1,", "crash ,1", "crash 1,,2", "crash 1, 2", "crash -", "crash x", "crash 1,x", "crash 1;2", "crash 1,-2", "crash 1 2,3 ,", "crash 2147483648", "crash 1,2147483648", "crash 1 4611686018427387904", "crash 01", "crash 1,00",
		"at", "at ", "at x", "at 1 2", "at -", "at 4611686018427387905", "at 9223372036854775808", "at 18446744073709551616", "at 18446744073709551617", "at 1000000000000000000000000",
	}
	for _, n := range []string{"00", "01", "007", "+1", "-1", "-0", "1.0", "1e3", "0x1", "1_0", "١", "2147483648", "4611686018427387904", "9223372036854775808", "18446744073709551615", "18446744073709551616", "18446744073709551617"} {
		l = append(l, "look "+n, "take "+n, "send "+n, "feed "+n+" a", "reply "+n+" 2 3 4", "reply 1 2 "+n+" 4", "crash "+n, "crash 1,"+n, "crash 5 "+n)
		if len(n) != 19 && n != "2147483648" || n == "9223372036854775808" { // which are numbers from 0 to 2^62
			l = append(l, "at "+n, "reply 1 "+n+" 3 4")
		}
	}
	return append(l, "reply 1 4611686018427387905 3 4")
}

// TestP202ParseWrong has lines that are none, alone and among others: their number is told.
func TestP202ParseWrong(t *testing.T) {
	for _, s := range wrongLines() {
		checkParse(t, s+"\n", nil, api.ErrConf, 1)
		checkParse(t, "tick\n"+s+"\n", nil, api.ErrConf, 2)
		checkParse(t, "at 1\ntick\nstop\n"+s+"\nx\n", nil, api.ErrConf, 4)
		if s != "" {
			checkParse(t, "tick\n"+s, nil, api.ErrConf, 2)
		}
	}
	for _, s := range []string{"tick", "at 5", "connect r", "crash", "crash 1"} { // without an LF
		checkParse(t, s, nil, api.ErrConf, 1)
		checkParse(t, "stop\nstop\n"+s, nil, api.ErrConf, 3)
		checkParse(t, "stop\n\n"+s, nil, api.ErrConf, 2)
	}
	checkParse(t, "", nil, api.OK, 0)
}

// TestP202At has the time stay, go on and turn back.
func TestP202At(t *testing.T) {
	tick := func(now uint64) api.Move { return api.Move{Kind: api.MoveTick, Now: now} }
	checkParse(t, "tick\nat 5\ntick\ntick\nat 5\ntick\nat 7\nat 9\ntick\nat 10\n", []api.Move{tick(0), tick(5), tick(5), tick(5), tick(9)}, api.OK, 0)
	checkParse(t, "at 5\n", nil, api.OK, 0)
	checkParse(t, "at 5\nat 4\n", nil, api.ErrConf, 2)
	checkParse(t, "at 5\ntick\nat 4\ntick\n", nil, api.ErrConf, 3)
	checkParse(t, "at 1\nat 0\n", nil, api.ErrConf, 2)
	checkParse(t, "at 9\nat 10\nat 9\n", nil, api.ErrConf, 3)
	checkParse(t, "at 4611686018427387904\nat 4611686018427387903\n", nil, api.ErrConf, 2)
}

// TestP202ParseMany has as many moves as there may be, and more.
func TestP202ParseMany(t *testing.T) {
	var l []api.Move
	for range api.MaxSteps {
		l = append(l, api.Move{Kind: api.MoveStop, Now: 3})
	}
	s := "at 3\n" + strings.Repeat("stop\n", api.MaxSteps)
	checkParse(t, s, l, api.OK, 0)
	checkParse(t, s+"at 4\nat 5\n", l, api.OK, 0)
	checkParse(t, s+"stop\n", nil, api.ErrMany, 1026)
	checkParse(t, s+"at 3\ncrash 1,2\nx\n", nil, api.ErrMany, 1027)
	checkParse(t, s+"stop", nil, api.ErrConf, 1026) // a line that is none ahead of too many
	checkParse(t, s+"stop 1\n", nil, api.ErrConf, 1026)
	checkParse(t, s+"look 01\n", nil, api.ErrConf, 1026)
	checkParse(t, s+"at 2\nstop\n", nil, api.ErrConf, 1026)
	checkParse(t, "at 3\nx\n"+s+"stop\n", nil, api.ErrConf, 2)
}

// TestP202ParseLong has as many bytes as there may be, and one more, whatever else is wrong.
func TestP202ParseLong(t *testing.T) {
	s := "connect " + strings.Repeat("r", api.MaxScript-9) + "\n"
	checkParse(t, s, []api.Move{{Kind: api.MoveConnect, Text: s[8 : api.MaxScript-1]}}, api.OK, 0)
	checkParse(t, s+"\n", nil, api.ErrLong, 0)
	for _, wrong := range []string{strings.Repeat("x", api.MaxScript+1), strings.Repeat("stop\n", api.MaxScript), "x\n" + s, strings.Repeat("\n", api.MaxScript+1)} {
		checkParse(t, wrong, nil, api.ErrLong, 0)
	}
	checkParse(t, strings.Repeat("\n", api.MaxScript), nil, api.ErrConf, 1)
	checkParse(t, strings.Repeat("stop\n", api.MaxScript/5), nil, api.ErrMany, 1025)
	checkParse(t, strings.Repeat("x", api.MaxScript), nil, api.ErrConf, 1)
}

// anyText is short, of bytes that are mostly plain.
func anyText(r *rand.Rand) string {
	b := make([]byte, pick(r, 0, 1, r.IntN(9)))
	for i := range b {
		b[i] = pick(r, byte(r.IntN(256)), "rs/09-, "[r.IntN(8)])
	}
	return string(b)
}

func anySmall(r *rand.Rand) int { return pick(r, 0, 1, r.IntN(30), r.IntN(1<<31), mostSmall) }

// anyMoves are right.
func anyMoves(r *rand.Rand, n int) []api.Move {
	var l []api.Move
	now := uint64(0)
	for range n {
		now = min(now+pick(r, 0, 0, 0, 1, r.Uint64N(1000), r.Uint64N(1<<61)), most)
		m := api.Move{Kind: api.MoveKind(1 + r.IntN(int(api.MoveCount)-1)), Now: now}
		switch m.Kind {
		case api.MoveConnect:
			m.Text = anyText(r)
		case api.MoveFeed:
			m.Line, m.Text = anySmall(r), anyText(r)
		case api.MoveLook, api.MoveTake:
			m.Line = anySmall(r)
		case api.MoveSend:
			m.Exporter = anySmall(r)
		case api.MoveReply:
			m.Exporter, m.Seq, m.Status, m.Text = anySmall(r), pick(r, 0, most, r.Uint64N(most)), anySmall(r), anyText(r)
		case api.MoveCrash:
			for range r.IntN(4) {
				var list []int
				for range 1 + r.IntN(3) {
					list = append(list, anySmall(r))
				}
				m.Keeps = append(m.Keeps, list)
			}
		}
		l = append(l, m)
	}
	return l
}

// worn is s with something changed.
func worn(r *rand.Rand, s string) string {
	if s == "" {
		return pick(r, "", "\n", "x", " ")
	}
	at, end := r.IntN(len(s)), r.IntN(len(s))
	at, end = min(at, end), max(at, end)
	switch r.IntN(6) {
	case 0:
		return s[:at] + s[at+1:]
	case 1:
		return s[:at] + pick(r, " ", "\n", ",", "0", "-", "%", "1", "r", "at 3\n", "tick\n") + s[at:]
	case 2:
		return s[:at] + string(rune(r.IntN(256))) + s[at+1:]
	case 3:
		return s[:at] + s[end:]
	case 4:
		return s[:at]
	}
	return s + s[at:end]
}

// TestP202ParseModel holds Parse against patterns, with scripts that are right, and such with something changed.
func TestP202ParseModel(t *testing.T) {
	r := rand.New(rand.NewPCG(20, 2))
	had := map[api.Errno]int{}
	for range 4000 {
		s, why := front.Print(anyMoves(r, r.IntN(8)))
		if why != api.OK {
			t.Fatalf("Print: error %d", why)
		}
		for range r.IntN(3) {
			s = worn(r, s)
		}
		want, wantWhy, line := parsed(s)
		checkParse(t, s, want, wantWhy, line)
		had[wantWhy]++
	}
	if min(had[api.OK], had[api.ErrConf]) < 500 {
		t.Errorf("errors %v", had)
	}
}

// TestP205ThereAndBack has moves that are right be printed and read again.
func TestP205ThereAndBack(t *testing.T) {
	r := rand.New(rand.NewPCG(20, 15))
	for range 2000 {
		l := anyMoves(r, pick(r, 0, 1, r.IntN(20), 200))
		s, why := front.Print(l)
		want, wantWhy := printed(l)
		if s != want || why != wantWhy || why != api.OK {
			t.Fatalf("Print of %s: error %d, %s, want %s", brief(l), why, brief(s), brief(want))
		}
		checkParse(t, s, l, api.OK, 0)
	}
}

// TestP206InParts has two scripts behind one another.
func TestP206InParts(t *testing.T) {
	r := rand.New(rand.NewPCG(20, 6))
	for range 1000 {
		l := anyMoves(r, r.IntN(20))
		at := r.IntN(len(l) + 1)
		first, second := l[:at], l[at:]
		a, _ := front.Print(first)
		now := uint64(0)
		if at > 0 {
			now = l[at-1].Now
		}
		whole, _ := front.Print(l)
		b := whole[len(a):] // it goes on at the time of the first one
		if !strings.HasPrefix(whole, a) {
			t.Fatalf("Print of %s does not begin with %s", brief(whole), brief(a))
		}
		x, _, _ := front.Parse(a)
		y, why, _ := front.Parse("at " + strconv.FormatUint(now, 10) + "\n" + b)
		if why != api.OK || !same(x, first) || !same(y, second) {
			t.Errorf("Parse of %s and %s: error %d", brief(a), brief(b), why)
		}
		checkParse(t, a+b, append(x, y...), api.OK, 0)
		if now > 0 {
			checkParse(t, a+"at "+strconv.FormatUint(now-1, 10)+"\n"+b, nil, api.ErrConf, 1+strings.Count(a, "\n"))
		}
	}
}

// TestP202Print has each kind of moves, at the same and at later times.
func TestP202Print(t *testing.T) {
	checkPrint(t, nil, "", api.OK)
	checkPrint(t, []api.Move{}, "", api.OK)
	checkPrint(t, []api.Move{{Kind: api.MoveTick}, {Kind: api.MoveTick, Now: 5}, {Kind: api.MoveStop, Now: 5}, {Kind: api.MoveTick, Now: 6}}, "tick\nat 5\ntick\nstop\nat 6\ntick\n", api.OK)
	checkPrint(t, []api.Move{{Kind: api.MoveTick, Now: most}, {Kind: api.MoveConnect, Now: most}}, "at 4611686018427387904\ntick\nconnect -\n", api.OK)
	checkPrint(t, []api.Move{{Kind: api.MoveConnect, Text: "a-b"}, {Kind: api.MoveFeed, Line: 3, Text: "x\r\n"}, {Kind: api.MoveLook, Line: 4}, {Kind: api.MoveTake, Line: mostSmall}},
		"connect a%2Db\nfeed 3 x%0D%0A\nlook 4\ntake 2147483647\n", api.OK)
	checkPrint(t, []api.Move{{Kind: api.MoveSend, Exporter: mostSmall}, {Kind: api.MoveReply, Exporter: 1, Seq: most, Status: mostSmall, Text: "%"}, {Kind: api.MoveReply}},
		"send 2147483647\nreply 1 4611686018427387904 2147483647 %25\nreply 0 0 0 -\n", api.OK)
	checkPrint(t, []api.Move{{Kind: api.MoveCrash}, {Kind: api.MoveCrash, Keeps: [][]int{}}, {Kind: api.MoveCrash, Keeps: [][]int{{1, 2}, {0}, {mostSmall}}}}, "crash\ncrash\ncrash 1,2 0 2147483647\n", api.OK)
}

// wrongMoves are not right, each for a reason.
func wrongMoves() []api.Move {
	l := []api.Move{{}, {Kind: api.MoveCount}, {Kind: 11}, {Kind: 255}, {Now: 5}, {Kind: api.MoveCrash, Keeps: [][]int{{}}}, {Kind: api.MoveCrash, Keeps: [][]int{nil}}, {Kind: api.MoveCrash, Keeps: [][]int{{1}, {}}}, {Kind: api.MoveCrash, Keeps: [][]int{{}, {1}}}}
	for _, n := range []int{-1, -1 << 63, mostSmall + 1, 1 << 62, 1<<63 - 1} {
		l = append(l, api.Move{Kind: api.MoveFeed, Line: n}, api.Move{Kind: api.MoveLook, Line: n}, api.Move{Kind: api.MoveTake, Line: n}, api.Move{Kind: api.MoveSend, Exporter: n},
			api.Move{Kind: api.MoveReply, Exporter: n}, api.Move{Kind: api.MoveReply, Status: n}, api.Move{Kind: api.MoveCrash, Keeps: [][]int{{n}}}, api.Move{Kind: api.MoveCrash, Keeps: [][]int{{1}, {2, n}, {3}}})
	}
	for kind := api.MoveConnect; kind < api.MoveCount; kind++ {
		l = append(l, api.Move{Kind: kind, Now: most + 1}, api.Move{Kind: kind, Now: 1<<64 - 1}, api.Move{Kind: kind, Seq: most + 1}, api.Move{Kind: kind, Seq: 1<<64 - 1})
		for _, m := range []api.Move{{Line: 1}, {Text: "x"}, {Exporter: 1}, {Seq: 1}, {Status: 1}, {Keeps: [][]int{{1}}}, {Keeps: [][]int{{0}}}, {Keeps: [][]int{nil}}} {
			m.Kind = kind
			if !isRight(m) { // of a field that the kind has not
				l = append(l, m)
			}
		}
	}
	return l
}

// TestP202PrintWrong has moves made by hand that are not right, alone and among others.
func TestP202PrintWrong(t *testing.T) {
	wrong := wrongMoves()
	if len(wrong) < 120 {
		t.Errorf("there are %d only", len(wrong))
	}
	tick := api.Move{Kind: api.MoveTick}
	for _, m := range wrong {
		checkPrint(t, []api.Move{m}, "", api.ErrConf)
		checkPrint(t, []api.Move{tick, m}, "", api.ErrConf)
		checkPrint(t, []api.Move{{Kind: api.MoveConnect, Text: strings.Repeat("x", api.MaxScript+9)}, m}, "", api.ErrConf) // which is too long, too
	}
	later := api.Move{Kind: api.MoveStop, Now: 5}
	checkPrint(t, []api.Move{later, tick}, "", api.ErrConf)
	checkPrint(t, []api.Move{tick, later, later, {Kind: api.MoveStop, Now: 4}}, "", api.ErrConf)
	checkPrint(t, []api.Move{later, {Kind: api.MoveStop, Now: most + 1}}, "", api.ErrConf)
}

func TestP202PrintMany(t *testing.T) {
	l := make([]api.Move, api.MaxSteps+1)
	for i := range l {
		l[i] = api.Move{Kind: api.MoveLook, Line: 7}
	}
	checkPrint(t, l[1:], strings.Repeat("look 7\n", api.MaxSteps), api.OK)
	checkPrint(t, l, "", api.ErrConf)
	for i := range l {
		l[i].Kind, l[i].Text, l[i].Line = api.MoveConnect, strings.Repeat("x", 100), 0
	}
	checkPrint(t, l[1:], "", api.ErrLong)
	checkPrint(t, l, "", api.ErrConf)
}

// TestP202PrintLong has as many bytes as there may be, and one more, in texts, lists and numbers.
func TestP202PrintLong(t *testing.T) {
	text := func(n int) api.Move { return api.Move{Kind: api.MoveConnect, Text: strings.Repeat("r", n)} }
	rest := api.MaxScript - len("connect \n")
	checkPrint(t, []api.Move{text(rest)}, "connect "+strings.Repeat("r", rest)+"\n", api.OK)
	checkPrint(t, []api.Move{text(rest + 1)}, "", api.ErrLong)
	checkPrint(t, []api.Move{text(rest - 5), {Kind: api.MoveTick}}, "connect "+strings.Repeat("r", rest-5)+"\ntick\n", api.OK)
	checkPrint(t, []api.Move{text(rest - 4), {Kind: api.MoveTick}}, "", api.ErrLong)
	checkPrint(t, []api.Move{{Kind: api.MoveTick}, text(rest - 5 - 5), {Kind: api.MoveTick, Now: 3}}, "", api.ErrLong) // of at 3
	for _, n := range []int{api.MaxScript - 1, api.MaxScript, api.MaxScript + 1, 1 << 20, 1 << 24} {
		checkPrint(t, []api.Move{text(n)}, "", api.ErrLong)
		checkPrint(t, []api.Move{{Kind: api.MoveFeed, Text: strings.Repeat("%", n)}}, "", api.ErrLong)
		checkPrint(t, []api.Move{{Kind: api.MoveReply, Text: strings.Repeat("\xff", n/3)}}, "", api.ErrLong)
		checkPrint(t, []api.Move{{Kind: api.MoveCrash, Keeps: [][]int{make([]int, n)}}}, "", api.ErrLong)
	}
	checkPrint(t, []api.Move{{Kind: api.MoveFeed, Text: strings.Repeat("%", (api.MaxScript-8)/3)}}, fmt.Sprintf("feed 0 %s\n", strings.Repeat("%25", (api.MaxScript-8)/3)), api.OK)
	lists := func(n int) []api.Move {
		var keeps [][]int
		for range n {
			keeps = append(keeps, []int{1, 2})
		}
		return []api.Move{{Kind: api.MoveCrash, Keeps: keeps}}
	}
	n := (api.MaxScript - len("crash\n")) / 4
	checkPrint(t, lists(n), "crash"+strings.Repeat(" 1,2", n)+"\n", api.OK)
	checkPrint(t, lists(n+1), "", api.ErrLong)
}

// TestP202PrintModel has moves that may be wrong.
func TestP202PrintModel(t *testing.T) {
	r := rand.New(rand.NewPCG(20, 22))
	had := map[api.Errno]int{}
	for range 4000 {
		l := anyMoves(r, 1+r.IntN(5))
		for range r.IntN(2) {
			m := &l[r.IntN(len(l))]
			switch r.IntN(8) {
			case 0:
				m.Kind = api.MoveKind(r.IntN(12))
			case 1:
				m.Now = pick(r, m.Now+1, m.Now-1, r.Uint64())
			case 2:
				m.Line = pick(r, anySmall(r), -anySmall(r))
			case 3:
				m.Text = anyText(r)
			case 4:
				m.Exporter = anySmall(r)
			case 5:
				m.Seq = pick(r, 0, 1, r.Uint64())
			case 6:
				m.Status = pick(r, anySmall(r), -anySmall(r))
			case 7:
				m.Keeps = append(m.Keeps, pick(r, nil, []int{-1}, []int{1, 2}))
			}
		}
		want, wantWhy := printed(l)
		checkPrint(t, l, want, wantWhy)
		had[wantWhy]++
	}
	if min(had[api.OK], had[api.ErrConf]) < 500 {
		t.Errorf("errors %v", had)
	}
}
