package tests

import (
	"fmt"
	"math/rand"
	"regexp"
	"runtime"
	"slices"
	"strconv"
	"strings"
	"sync"
	"testing"

	"loop.example/plashet/impl"
)

// script has a newline after each line.
func script(lines ...string) string {
	var text string
	for _, line := range lines {
		text += line + "\n"
	}
	return text
}

// times is a script some times over.
func times(n int, text string) string {
	return strings.Repeat(text, n)
}

// cutReport are the lines of an answer before the last four, and these.
func cutReport(t *testing.T, answer string) (string, string) {
	t.Helper()
	lines := strings.SplitAfter(answer, "\n")
	// What follows the last newline is no line.
	ended := len(lines) - 1
	if ended < 4 || lines[ended] != "" {
		t.Fatalf("the answer %q has not four lines, each with a newline", answer)
	}
	return strings.Join(lines[:ended-4], ""), strings.Join(lines[ended-4:], "")
}

// changeForms are the texts of changes of each kind.
var changeForms = map[int]*regexp.Regexp{
	impl.OpMake: regexp.MustCompile(`^make ([1-3][1-6]) ([1-3][1-6]?) (0|[1-3][1-6]) '([a-d]{0,4})'$`),
	impl.OpText: regexp.MustCompile(`^text ([1-3][1-6])()() '([a-d]{0,4})'$`),
	impl.OpMove: regexp.MustCompile(`^move ([1-3][1-6]) ([1-3][1-6]?) (0|[1-3][1-6])()$`),
}

// wantChange is the change of a text, read by its form.
func wantChange(text string) (impl.Op, bool) {
	for kind, form := range changeForms {
		if m := form.FindStringSubmatch(text); m != nil {
			number := func(i int) int {
				// What is not of the kind is empty, and so 0.
				n, _ := strconv.Atoi(m[i])
				return n
			}
			return impl.Op{Kind: kind, Id: number(1), Up: number(2), At: number(3), Text: m[4]}, true
		}
	}
	return impl.Op{}, false
}

// wordAt is the word behind so many blanks.
func wordAt(line string, blanks int) string {
	for range blanks {
		_, line, _ = strings.Cut(line, " ")
	}
	word, _, _ := strings.Cut(line, " ")
	return word
}

var numberForm = regexp.MustCompile(`^[0-9][0-9]?$`)

// numberAt is the number behind so many blanks, or -1.
func numberAt(line string, blanks int) int {
	word := wordAt(line, blanks)
	if !numberForm.MatchString(word) {
		return -1
	}
	n, _ := strconv.Atoi(word)
	return n
}

// keyWords are the editing commands by their words.
var keyWords = map[string]string{"in": "KeyIn", "out": "KeyOut", "gone": "KeyGone"}

// eventWords are the events by their words, but for those with a client.
var eventWords = map[string]int{
	"sync": impl.EvSync, "down": impl.EvDown, "rise": impl.EvRise,
	"fall": impl.EvFall, "bring": impl.EvBring, "lose": impl.EvLose, "twice": impl.EvTwice,
}

// scribe has a run and what was printed, as the document has it.
type scribe struct {
	w   impl.World
	out string
}

// shown is the outline of a client; false, if there is none.
func (s *scribe) shown(who int) ([]impl.Row, bool) {
	if _, client := made[who]; !client {
		return nil, false
	}
	return wantShow(s.w.Clients[who-1]), true
}

func (s *scribe) do(line string) {
	first, one, two := wordAt(line, 0), numberAt(line, 1), numberAt(line, 2)
	kind, plain := eventWords[first]
	switch {
	case first == "do":
		// Five bytes are needed for anything to follow them.
		o, ok := wantChange(strings.TrimPrefix(line, line[:min(5, len(line))]))
		if !ok {
			s.out += "what\n"
			return
		}
		s.w = wantEvent(s.w, doing(one, o))
	case keyWords[first] != "":
		t, client := s.shown(one)
		o, ok := wantKey(keyWords[first], t, two)
		if !client || !ok {
			s.out += "no\n"
			return
		}
		s.w = wantEvent(s.w, doing(one, o))
	case first == "send":
		s.w = wantEvent(s.w, of(impl.EvSend, one))
	case first == "news":
		s.w = wantEvent(s.w, news(one, two))
	case plain:
		s.w = wantEvent(s.w, numbered(kind, one))
	case first == "calm":
		s.w = wantCalm(s.w)
	case first == "see":
		t, client := s.shown(one)
		if !client {
			s.out += "what\n"
			return
		}
		s.out += impl.TreeText(t)
	default:
		s.out += "what\n"
	}
}

// wantLines is what LinesRun has to return.
func wantLines(text string) string {
	if len(text) > 600 {
		return "too long\n"
	}
	s := scribe{w: newWorld()}
	for {
		line, rest, ended := strings.Cut(text, "\n")
		if !ended {
			break
		}
		s.do(line)
		text = rest
	}
	return s.out + wantReport(s.w)
}

// wantReport are the last four lines.
func wantReport(w impl.World) string {
	report := fmt.Sprintf("%s %d %d\n", map[bool]string{true: "up", false: "down"}[w.Server.Up], len(w.Server.Log), w.Server.Safe)
	for _, c := range w.Clients {
		report += fmt.Sprintf("%d %d %d\n", c.Who, c.Seen, len(c.Wait))
	}
	return report
}

func checkLines(t *testing.T, text string) {
	t.Helper()
	if got, want := impl.LinesRun(text), wantLines(text); got != want {
		t.Errorf("LinesRun(%q) = %q, want %q", text, got, want)
	}
}

// lineOf is the line of an event.
func lineOf(e impl.Event) string {
	switch e.Kind {
	case impl.EvDo:
		return fmt.Sprintf("do %d %s", e.Who, impl.OpShow(e.Op))
	case impl.EvSend:
		return fmt.Sprintf("send %d", e.Who)
	case impl.EvNews:
		return fmt.Sprintf("news %d %d", e.Who, e.N)
	}
	for word, kind := range eventWords {
		if kind == e.Kind {
			return fmt.Sprintf("%s %d", word, e.N)
		}
	}
	panic("no such event")
}

// anyLine is one that is mostly possible in a run.
func anyLine(random *rand.Rand, w impl.World, kinds []int) string {
	who := 1 + random.Intn(3)
	switch random.Intn(60) {
	case 0, 1, 2:
		return fmt.Sprintf("see %d", who)
	case 3:
		return "calm"
	case 4, 5, 6, 7, 8, 9, 10, 11, 12, 13:
		rows := ids(wantShow(w.Clients[who-1]))
		return fmt.Sprintf("%s %d %d", []string{"in", "in", "out", "out", "gone"}[random.Intn(5)], who, rows[random.Intn(len(rows))])
	}
	return lineOf(anyEvent(random, w, kinds[random.Intn(len(kinds))], who))
}

// spoiltLine has a byte more, a byte less, another one, or a blank more.
func spoiltLine(random *rand.Rand, line string) string {
	i := random.Intn(len(line))
	some := "0123456789 'abcd-+\n\x00\xc3\xff" + line
	at := random.Intn(len(some))
	other := some[at : at+1]
	switch random.Intn(4) {
	case 0:
		return line[:i] + other + line[i:]
	case 1:
		return line[:i] + line[i+1:]
	case 2:
		return line[:i] + other + line[i+1:]
	}
	return line[:i] + " " + line[i:]
}

// anyScript has at most so many lines and bytes, made up along a run as the document has it; one line in so many is spoilt, or none if that is 0.
func anyScript(random *rand.Rand, kinds []int, lines, bytes, spoilt int) string {
	s := scribe{w: newWorld()}
	var text string
	for range lines {
		line := anyLine(random, s.w, kinds)
		if spoilt > 0 && random.Intn(spoilt) == 0 {
			line = spoiltLine(random, line)
		}
		if len(text)+len(line)+1 > bytes {
			break
		}
		// A spoilt line may be two.
		for _, part := range strings.Split(line, "\n") {
			s.do(part)
		}
		text += line + "\n"
	}
	return text
}

// someScripts are of all tempers, some with spoilt lines, and of all lengths up to 600 bytes.
var someScripts = sync.OnceValue(func() []string {
	var all []string
	for i, kinds := range tempers() {
		for seed := range 100 {
			random := rand.New(rand.NewSource(int64(1000*i + seed)))
			bytes := 600
			if seed%3 == 0 {
				bytes = random.Intn(601)
			}
			all = append(all, anyScript(random, kinds, 120, bytes, []int{0, 10, 3}[seed%3]))
		}
	}
	return all
})

// none is the report of a run without entries.
const none = "up 0 0\n1 0 0\n2 0 0\n3 0 0\n"

// two are the rows 11 and 12 of client 1, which nobody else has.
var two = script("do 1 make 11 1 0 'a'", "do 1 make 12 1 11 'b'")

// stages are scripts after which lines are tried out.
var stages = map[string]string{
	"nothing":  "",
	"two rows": two,
	// All that there can be: applied, durable, recorded, sent and waiting entries, and news.
	"all": script("do 1 make 11 1 0 'a'", "do 1 make 12 1 11 ''", "do 2 make 21 1 0 'b'", "calm", "do 1 text 12 'c'", "do 2 make 22 21 0 ''",
		"send 1", "bring 0", "sync", "do 3 make 31 11 0 'd'", "send 3", "bring 0", "send 2", "news 2 3", "send 3", "news 1 0"),
	"all, down": script("do 1 make 11 1 0 'a'", "do 1 make 12 1 11 ''", "do 2 make 21 1 0 'b'", "calm", "do 1 text 12 'c'", "do 2 make 22 21 0 ''",
		"send 1", "bring 0", "sync", "do 3 make 31 11 0 'd'", "send 3", "bring 0", "send 2", "news 2 3", "send 3", "news 1 0", "down"),
}

// sees shows what all see.
var sees = script("see 1", "see 2", "see 3")

// ends are scripts that bring to light what a line did: what is there, and what is in transit.
var ends = []string{
	"",
	sees,
	script("rise", "bring 0", "bring 0", "sync", "bring 0") + sees,
	script("rise", "bring 3", "sync", "news 3 0", "bring 3") + sees,
}

// checkLine tries out a line after a stage and before each end.
func checkLine(t *testing.T, stage, line string) {
	t.Helper()
	for _, end := range ends {
		checkLines(t, stage+line+"\n"+end)
	}
}

// The sentences of the document, each in a script.
func TestLinesWrittenOut(t *testing.T) {
	for _, x := range []struct {
		text string
		want string
	}{
		// An empty script, and what follows the last newline.
		{"", none},
		{"\n", "what\n" + none},
		{"see 1", none},
		{"hello", none},
		{"down\nrise", "down 0 0\n1 0 0\n2 0 0\n3 0 0\n"},
		{"see 1\nsee 2", "1\n2\n3\n" + none},
		// Words.
		{script(""), "what\n" + none},
		{script("", ""), "what\nwhat\n" + none},
		{script(" "), "what\n" + none},
		{script("   "), "what\n" + none},
		{script(" see 1"), "what\n" + none},
		{script("see  1"), "what\n" + none},
		{script("see 1 "), "1\n2\n3\n" + none},
		{script("see 1 2"), "1\n2\n3\n" + none},
		{script("see 1  hello"), "1\n2\n3\n" + none},
		{script("see\t1"), "what\n" + none},
		{script("see 1\t"), "what\n" + none},
		{script("see 1\r"), "what\n" + none},
		{script("down\r"), "what\n" + none},
		{script("down "), "down 0 0\n1 0 0\n2 0 0\n3 0 0\n"},
		{script("down 5 hello"), "down 0 0\n1 0 0\n2 0 0\n3 0 0\n"},
		{script("see"), "what\n" + none},
		{script("see "), "what\n" + none},
		// Numbers.
		{script("see 01"), "1\n2\n3\n" + none},
		{script("see 001"), "what\n" + none},
		{script("see 03"), "1\n2\n3\n" + none},
		{script("see +1"), "what\n" + none},
		{script("see -1"), "what\n" + none},
		{script("see 1a"), "what\n" + none},
		{script("see a"), "what\n" + none},
		{script("see 1."), "what\n" + none},
		{script("see 0"), "what\n" + none},
		{script("see 00"), "what\n" + none},
		{script("see 4"), "what\n" + none},
		{script("see 11"), "what\n" + none},
		{script("see 257"), "what\n" + none},
		{script("see 18446744073709551617"), "what\n" + none},
		// Other words at the beginning.
		{script("hello"), "what\n" + none},
		{script("what"), "what\n" + none},
		{script("no"), "what\n" + none},
		{script("up"), "what\n" + none},
		{script("Down"), "what\n" + none},
		{script("DOWN"), "what\n" + none},
		{script("dow"), "what\n" + none},
		{script("down5"), "what\n" + none},
		{script("1"), "what\n" + none},
		{script("\xff\xfe"), "what\n" + none},
		{script("sée 1"), "what\n" + none},
		{script("\x00"), "what\n" + none},
		// Changes.
		{script("do 1 make 11 1 0 'ab'", "see 1", "see 2"), "1\n.11 ab\n2\n3\n1\n2\n3\n" + "up 0 0\n1 0 1\n2 0 0\n3 0 0\n"},
		{script("do 3 make 31 2 0 ''", "see 3"), "1\n2\n.31\n3\n" + "up 0 0\n1 0 0\n2 0 0\n3 0 1\n"},
		{two + script("do 1 text 11 'dd'", "do 1 move 12 11 0", "see 1"), "1\n.11 dd\n..12 b\n2\n3\n" + "up 0 0\n1 0 4\n2 0 0\n3 0 0\n"},
		{script("do 1 text 11 ''"), "up 0 0\n1 0 1\n2 0 0\n3 0 0\n"}, // of a row that is not there, but is an entry
		{script("do 1 make 12 1 0 ''"), none}, // not the next one
		{script("do 1 make 21 1 0 ''"), none}, // not one of the client
		{script("do 0 make 11 1 0 ''"), none},
		{script("do 4 make 11 1 0 ''"), none},
		{script("do x make 11 1 0 ''"), none},
		{script("do 1"), "what\n" + none},
		{script("do 1 "), "what\n" + none},
		{script("do"), "what\n" + none},
		{script("do "), "what\n" + none},
		{script("do  "), "what\n" + none},
		{script("do 9"), "what\n" + none},
		{script("do 1 make 11 1 0 'ab' "), "what\n" + none},
		{script("do 1 make 11 1 0 'ab' 5"), "what\n" + none},
		{script("do 1 make 11 1 0 'ab"), "what\n" + none},
		{script("do 1 make 11 1 0 ab'"), "what\n" + none},
		{script("do 1 make 11 1 0 ab"), "what\n" + none},
		{script("do 1 make 11 1 0 "), "what\n" + none},
		{script("do 1 make 11 1 0"), "what\n" + none},
		{script("do 1 make 11 1 0 'e'"), "what\n" + none},
		{script("do 1 make 11 1 0 'abcda'"), "what\n" + none},
		{script("do 1 make 11 01 0 'a'"), "what\n" + none},
		{script("do 1 make 10 1 0 'a'"), "what\n" + none},
		{script("do 1 make 17 1 0 'a'"), "what\n" + none},
		{script("do 1 make 11 4 0 'a'"), "what\n" + none},
		{script("do 1 make 11 1 1 'a'"), "what\n" + none},
		{script("do 1 Make 11 1 0 'a'"), "what\n" + none},
		{script("do 1 gone 11"), "what\n" + none},
		{script("do 1 move 1 2 0"), "what\n" + none},
		{script("do 4 hello"), "what\n" + none},
		// The rest of the line begins after five bytes, whatever these are.
		{script("do 01 make 11 1 0 ''"), "what\n" + none},
		{script("do 01make 11 1 0 ''"), none},
		{script("do 1xmake 11 1 0 ''"), none},
		{script("do 1  make 11 1 0 ''"), "what\n" + none},
		{script("do  1 make 11 1 0 ''"), "what\n" + none},
		{script("do  1make 11 1 0 ''"), none},
		{script("do   make 11 1 0 ''"), none},
		{script(" do 1 make 11 1 0 ''"), "what\n" + none},
		{script("do 1make 11 1 0 ''"), "what\n" + none},
		// Editing commands.
		{two + script("in 1 12", "see 1"), "1\n.11 a\n..12 b\n2\n3\n" + "up 0 0\n1 0 3\n2 0 0\n3 0 0\n"},
		{two + script("in 1 12", "out 1 12", "see 1"), "1\n.11 a\n.12 b\n2\n3\n" + "up 0 0\n1 0 4\n2 0 0\n3 0 0\n"},
		{two + script("gone 1 11", "see 1"), "1\n.12 b\n2\n.11 a\n3\n" + "up 0 0\n1 0 3\n2 0 0\n3 0 0\n"},
		{two + script("in 01 12", "see 1"), "1\n.11 a\n..12 b\n2\n3\n" + "up 0 0\n1 0 3\n2 0 0\n3 0 0\n"},
		{two + script("in 1 12 11", "see 1"), "1\n.11 a\n..12 b\n2\n3\n" + "up 0 0\n1 0 3\n2 0 0\n3 0 0\n"},
		{two + script("in 1 11"), "no\n" + "up 0 0\n1 0 2\n2 0 0\n3 0 0\n"},  // the first
		{two + script("out 1 11"), "no\n" + "up 0 0\n1 0 2\n2 0 0\n3 0 0\n"}, // under a root
		{two + script("gone 1 11", "gone 1 11"), "no\n" + "up 0 0\n1 0 3\n2 0 0\n3 0 0\n"},
		{two + script("in 1 12", "gone 1 11", "gone 1 12"), "no\n" + "up 0 0\n1 0 4\n2 0 0\n3 0 0\n"}, // there with the row above it
		{two + script("in 1 1", "in 1 2", "out 1 2", "gone 1 3"), "no\nno\nno\nno\n" + "up 0 0\n1 0 2\n2 0 0\n3 0 0\n"},
		{two + script("in 1 13", "out 1 13", "gone 1 13", "in 1 0", "gone 1 99"), "no\nno\nno\nno\nno\n" + "up 0 0\n1 0 2\n2 0 0\n3 0 0\n"},
		{two + script("in 2 12", "out 2 12", "gone 2 12"), "no\nno\nno\n" + "up 0 0\n1 0 2\n2 0 0\n3 0 0\n"}, // nothing of it was heard
		{two + script("in 0 12", "out 4 12", "gone 9 12"), "no\nno\nno\n" + "up 0 0\n1 0 2\n2 0 0\n3 0 0\n"},
		{two + script("in 1 012", "in 1", "in", "in 1  12", "in  1 12"), "no\nno\nno\nno\nno\n" + "up 0 0\n1 0 2\n2 0 0\n3 0 0\n"},
		{two + script("gone 1 +11", "out", "gone"), "no\nno\nno\n" + "up 0 0\n1 0 2\n2 0 0\n3 0 0\n"},
		{two + script("calm", "in 3 12", "see 3", "see 1"), "1\n.11 a\n..12 b\n2\n3\n1\n.11 a\n.12 b\n2\n3\n" + "up 2 2\n1 2 0\n2 2 0\n3 2 1\n"},
		// Messages.
		{two + script("send 1"), "up 0 0\n1 0 2\n2 0 0\n3 0 0\n"},
		{two + script("send 1", "bring 0"), "up 1 0\n1 0 2\n2 0 0\n3 0 0\n"},
		{two + script("send 01", "bring 00", "bring 00"), "up 2 0\n1 0 2\n2 0 0\n3 0 0\n"},
		{two + script("send 2", "bring 0"), "up 0 0\n1 0 2\n2 0 0\n3 0 0\n"},
		{two + script("send", "send 0", "send 4", "send  1", "bring 0"), "up 0 0\n1 0 2\n2 0 0\n3 0 0\n"},
		{two + script("send 1", "bring 2", "bring", "bring -1", "bring a", "bring 000"), "up 0 0\n1 0 2\n2 0 0\n3 0 0\n"},
		{two + script("send 1", "lose 0", "bring 0"), "up 0 0\n1 0 2\n2 0 0\n3 0 0\n"}, // the second one is too early
		{two + script("send 1", "lose 1", "bring 0", "bring 0"), "up 1 0\n1 0 2\n2 0 0\n3 0 0\n"},
		{two + script("send 1", "lose", "lose 2", "lose -0", "bring 0", "bring 0"), "up 2 0\n1 0 2\n2 0 0\n3 0 0\n"},
		{two + script("send 1", "twice 0", "bring 1", "bring 1", "bring 0"), "up 1 0\n1 0 2\n2 0 0\n3 0 0\n"},
		{two + script("send 1", "twice 1", "bring 0", "lose 0", "bring 0"), "up 2 0\n1 0 2\n2 0 0\n3 0 0\n"},
		{two + script("send 1", "twice", "twice 2", "lose 0", "lose 0", "bring 0"), "up 0 0\n1 0 2\n2 0 0\n3 0 0\n"},
		{two + script("send 1", "bring 0", "sync"), "up 1 1\n1 0 2\n2 0 0\n3 0 0\n"},
		{two + script("send 1", "bring 0", "bring 0", "sync 5 5", "news 2 1", "bring 0"), "up 2 2\n1 0 2\n2 0 0\n3 0 0\n"}, // after a gap
		{two + script("send 1", "bring 0", "bring 0", "sync", "news 2 0", "bring 0", "see 2"), "1\n.11 a\n.12 b\n2\n3\n" + "up 2 2\n1 0 2\n2 2 0\n3 0 0\n"},
		{two + script("send 1", "bring 0", "bring 0", "sync", "news 01 00 9", "bring 0"), "up 2 2\n1 2 0\n2 0 0\n3 0 0\n"},
		{two + script("send 1", "bring 0", "sync", "news 2", "news 2 2", "news", "news 0 0", "news 4 0", "news  2 0", "bring 1", "bring 0"), "up 2 1\n1 0 2\n2 0 0\n3 0 0\n"},
		// The server.
		{script("down"), "down 0 0\n1 0 0\n2 0 0\n3 0 0\n"},
		{script("down", "rise"), none},
		{script("rise"), none},
		{two + script("send 1", "down", "bring 0"), "down 0 0\n1 0 2\n2 0 0\n3 0 0\n"},
		{two + script("send 1", "bring 0", "down", "sync"), "down 1 0\n1 0 2\n2 0 0\n3 0 0\n"},
		{two + script("send 1", "bring 0", "bring 0", "fall 0"), "up 0 0\n1 0 2\n2 0 0\n3 0 0\n"},
		{two + script("send 1", "bring 0", "bring 0", "fall 1"), "up 1 0\n1 0 2\n2 0 0\n3 0 0\n"},
		{two + script("send 1", "bring 0", "bring 0", "fall 01 7"), "up 1 0\n1 0 2\n2 0 0\n3 0 0\n"},
		{two + script("send 1", "bring 0", "bring 0", "fall 40"), "up 2 0\n1 0 2\n2 0 0\n3 0 0\n"},
		{two + script("send 1", "bring 0", "bring 0", "fall 41", "fall", "fall -1", "fall 000"), "up 2 0\n1 0 2\n2 0 0\n3 0 0\n"},
		{two + script("send 1", "bring 0", "bring 0", "sync", "down", "fall 0"), "down 2 2\n1 0 2\n2 0 0\n3 0 0\n"},
		// Quiet periods.
		{script("calm"), none},
		{two + script("calm", "see 3"), "1\n.11 a\n.12 b\n2\n3\n" + "up 2 2\n1 2 0\n2 2 0\n3 2 0\n"},
		{two + script("calm now"), "up 2 2\n1 2 0\n2 2 0\n3 2 0\n"},
		{two + script("down", "calm"), "up 2 2\n1 2 0\n2 2 0\n3 2 0\n"},
		{two + script("send 1", "calm", "bring 0"), "up 2 2\n1 2 0\n2 2 0\n3 2 0\n"},
		{two + script("send 1", "bring 0", "fall 0", "calm"), "up 2 2\n1 2 0\n2 2 0\n3 2 0\n"},
		{two + script("send 1", "bring 0", "calm", "calm"), "up 2 2\n1 2 0\n2 2 0\n3 2 0\n"},
	} {
		if got := impl.LinesRun(x.text); got != x.want {
			t.Errorf("LinesRun(%q) = %q, want %q", x.text, got, x.want)
		}
		if want := wantLines(x.text); want != x.want {
			t.Errorf("the model has %q for %q, want %q", want, x.text, x.want)
		}
	}
}

// LinesRun is as the document has it, in scripts along runs, and these come to all sorts of things.
func TestLinesAsStated(t *testing.T) {
	t.Parallel()
	count := map[string]int{}
	for _, text := range someScripts() {
		checkLines(t, text)
		got := impl.LinesRun(text)
		n := reportNumbers(t, got)
		for what, there := range map[string]bool{
			"what":                   strings.Contains(got, "what\n"),
			"no":                     strings.Contains(got, "no\n"),
			"a server that is down":  strings.Contains(got, "down"),
			"entries not durable":    n[0] > n[1],
			"clients not as far":     n[2] != n[4] || n[4] != n[6],
			"a client that saw some": n[2] > 0 && n[2] < n[1] || n[4] > 0 && n[4] < n[1] || n[6] > 0 && n[6] < n[1],
			"entries that wait":      n[3] > 0 && n[5] > 0 && n[7] > 0,
			"no entries that wait":   n[0] > 0 && n[3] == 0 && n[5] == 0 && n[7] == 0,
		} {
			if there {
				count[what]++
			}
		}
	}
	for _, what := range []string{"what", "no", "a server that is down", "entries not durable", "clients not as far", "a client that saw some", "entries that wait", "no entries that wait"} {
		if count[what] < 20 {
			t.Errorf("only %d scripts come to: %s", count[what], what)
		}
	}
}

var reportForm = regexp.MustCompile(`^(up|down) (0|[1-9]\d?) (0|[1-9]\d?)\n1 (0|[1-9]\d?) (0|[1-9]\d?)\n2 (0|[1-9]\d?) (0|[1-9]\d?)\n3 (0|[1-9]\d?) (0|[1-9]\d?)\n$`)

// reportNumbers are those of the last four lines of an answer, but for the numbers of the clients.
func reportNumbers(t *testing.T, answer string) [8]int {
	t.Helper()
	_, report := cutReport(t, answer)
	var n [8]int
	m := reportForm.FindStringSubmatch(report)
	if m == nil {
		t.Fatalf("the answer %q ends with %q", answer, report)
	}
	for i, word := range m[2:] {
		n[i], _ = strconv.Atoi(word)
	}
	return n
}

// checkReport holds the numbers of the last four lines against each other.
func checkReport(t *testing.T, text string) {
	t.Helper()
	n := reportNumbers(t, impl.LinesRun(text))
	if n[1] > n[0] || n[0] > 40 {
		t.Errorf("after %q, of %d entries %d are durable", text, n[0], n[1])
	}
	for i := 2; i < len(n); i += 2 {
		if n[i] > n[1] || n[i+1] > 40 {
			t.Errorf("after %q, client %d has applied %d entries, and %d wait", text, i/2, n[i], n[i+1])
		}
	}
}

// P98: at least four lines at the end, each with a newline: in scripts along runs, of any bytes, and of lines that are none.
func TestLastLines(t *testing.T) {
	t.Parallel()
	for _, text := range someScripts() {
		checkReport(t, text)
		checkReport(t, strings.TrimSuffix(text, "\n"))
	}
	random := rand.New(rand.NewSource(1))
	for range 300 {
		text := make([]byte, random.Intn(601))
		for i := range text {
			text[i] = byte(random.Intn(256))
			if random.Intn(10) == 0 {
				text[i] = " \n"[random.Intn(2)]
			}
		}
		checkReport(t, string(text))
		checkLines(t, string(text))
	}
	for b := range 256 {
		for _, text := range []string{string([]byte{byte(b)}), string([]byte{byte(b), '\n'}), "see 1\n" + string([]byte{byte(b)})} {
			checkReport(t, text)
			checkLines(t, text)
		}
	}
	for _, text := range []string{"", "\n", times(600, "\n"), times(600, " "), times(600, "x"), times(599, " ") + "\n", times(300, " \n"), times(100, "see 1\n")} {
		checkReport(t, text)
		checkLines(t, text)
	}
	if got := impl.LinesRun(times(601, "\n")); got != "too long\n" {
		t.Errorf("a script that is too long is answered with %q", got)
	}
}

// P98: the last four lines are what the script came to, and "down" and numbers of two digits are among it.
func TestLastLinesWrittenOut(t *testing.T) {
	up12 := script("do 1 make 11 1 0 ''") + times(11, "do 1 text 11 ''\n")
	for text, want := range map[string]string{
		up12:                  "up 0 0\n1 0 12\n2 0 0\n3 0 0\n",
		up12 + "calm\n":       "up 12 12\n1 12 0\n2 12 0\n3 12 0\n",
		up12 + "calm\ndown\n": "down 12 12\n1 12 0\n2 12 0\n3 12 0\n",
		up12 + "send 1\n" + times(12, "bring 0\n"):                               "up 12 0\n1 0 12\n2 0 0\n3 0 0\n",
		up12 + "send 1\n" + times(12, "bring 0\n") + "sync\nnews 3 0\nbring 0\n": "up 12 12\n1 0 12\n2 0 0\n3 12 0\n",
		up12 + "send 1\n" + times(12, "bring 0\n") + "sync\nnews 1 0\nbring 0\n": "up 12 12\n1 12 0\n2 0 0\n3 0 0\n",
		up12 + "send 1\n" + times(11, "bring 0\n") + "sync\nbring 0\ndown\n":     "down 12 11\n1 0 12\n2 0 0\n3 0 0\n",
	} {
		if _, report := cutReport(t, impl.LinesRun(text)); report != want {
			t.Errorf("after %q comes %q, want %q", text, report, want)
		}
	}
}

// numberWords are good and bad words for a number.
var numberWords = []string{
	"", "0", "1", "2", "3", "4", "7", "9", "00", "01", "02", "03", "04", "10", "11", "12", "21", "22", "31", "36", "40", "41", "99",
	"001", "000", "100", "011", "257", "65537", "4294967297", "18446744073709551617", "-", "-1", "-0", "+1", "+0", "1-", "a", "1a", "a1", "0x1", "1_", "1.", "1e0", "'1'", "1\t", "\xff", "1\x00", "１", "١",
}

// firstWords are those of all commands.
var firstWords = []string{"do", "in", "out", "gone", "send", "news", "sync", "down", "rise", "fall", "bring", "lose", "twice", "calm", "see"}

// Numbers of one and two digits, and what is none, in each place of each command.
func TestNumbersInLines(t *testing.T) {
	t.Parallel()
	for _, first := range firstWords {
		for _, word := range numberWords {
			for _, numbers := range []string{word, word + " 0", word + " 1", word + " 12", "1 " + word, "02 " + word, "3 " + word} {
				checkLine(t, stages["all"], first+" "+numbers)
			}
		}
	}
}

// Numbers of two digits, also 08 and 09, by which message is lost and by how many entries a crash leaves.
func TestNumbersOfTwoDigits(t *testing.T) {
	sent := script("do 1 make 11 1 0 ''") + times(11, "do 1 text 11 ''\n") + "send 1\n"
	for n := range 13 {
		for _, form := range []string{"%d", "%02d"} {
			word := fmt.Sprintf(form, n)
			// Those behind the one that is lost are not recorded.
			for text, line := range map[string]string{
				sent + "lose " + word + "\n" + times(12, "bring 0\n"): "up %d 0\n",
				sent + times(12, "bring 0\n") + "fall " + word + "\n": "up %d 0\n",
			} {
				want := strings.Replace(line, "%d", strconv.Itoa(n), 1)
				if _, report := cutReport(t, impl.LinesRun(text)); !strings.HasPrefix(report, want) {
					t.Errorf("after %q comes %q, want %q", text, report, want)
				}
				checkLines(t, text)
			}
		}
	}
}

// Every word of up to three digits and other bytes is a number or not.
func TestEveryNumber(t *testing.T) {
	t.Parallel()
	some := "0123459 +-a."
	for _, a := range some {
		for _, b := range some {
			for _, c := range some {
				checkLines(t, script("see "+string(a), "see "+string(a)+string(b), "see "+string(a)+string(b)+string(c)))
			}
		}
	}
	rows := script("do 1 make 11 1 0 ''", "do 1 make 12 1 0 ''", "do 2 make 21 1 0 ''", "calm")
	for n := range 1000 {
		checkLines(t, rows+script(fmt.Sprintf("gone 1 %d", n), fmt.Sprintf("gone 2 %02d", n), fmt.Sprintf("gone 3 %03d", n), "see 1", "see 2", "see 3"))
	}
}

// Words that are not there, and words too many, of each command.
func TestWordsMissingAndTooMany(t *testing.T) {
	t.Parallel()
	for _, first := range firstWords {
		for _, rest := range []string{
			"", " ", "  ", "   ", "    ", " 1", " 1 ", " 1  ", "  1", "   1", " 1 11", " 1 12", " 1  12", "  1 12", " 1 12 ", " 1 12 1", " 1 12  1 1 1", " 1 0", " 1 0 0 0", " 0 0", " 0 1",
			" make 11 1 0 ''", " 1 make", " 1 make ", " 1 text 11 'b'", " 1 text 11 'b' ", " 1  text 11 'b'", "  1 text 11 'b'", " 1 text 11 'b' 1", " 1 text  11 'b'",
			" 1 make 13 1 0 'a'", " 01 make 13 1 0 'a'", " 01make 13 1 0 'a'", " 1make 13 1 0 'a'", " 9 make 13 1 0 'a'", "12 make 13 1 0 'a'", "123make 13 1 0 'a'", "   make 13 1 0 'a'", "x1 text 11 'b'",
		} {
			for _, stage := range stages {
				checkLine(t, stage, first+rest)
			}
			checkLine(t, two, " "+first+rest)
			checkLine(t, two, first+rest+"\r")
		}
	}
}

// otherWords are first words that are no command.
func otherWords() []string {
	words := []string{"", "hello", "what", "no", "up", "too", "make", "text", "move", "back", "undo", "quit", "help", "0", "1", "11", "-1", "'", "''", ".", "#", "\t", "\r", "\x00", "\x7f", "\x80", "\xff", "é", "日本", "do\t1", "see\t1", "see\u00a01"}
	for _, first := range firstWords {
		words = append(words, strings.ToUpper(first), strings.ToUpper(first[:1])+first[1:], first+first, first[1:], first[:len(first)-1], first+"s", first+"1", first+"\t", first+"\r", first+"\x00", "\ufeff"+first, first+"\xff", first+"'", first+",", first+";")
	}
	return words
}

// P104: first words that are none print "what", and change nothing.
func TestUnknownLines(t *testing.T) {
	t.Parallel()
	for _, stage := range stages {
		printed, report := cutReport(t, impl.LinesRun(stage+sees))
		for _, word := range otherWords() {
			for _, rest := range []string{"", " ", " 1", " 1 11", " 1 make 13 1 0 ''"} {
				if got := impl.LinesRun(stage + word + rest + "\n" + sees); got != "what\n"+printed+report {
					t.Errorf("after %q, %q is answered with %q", stage, word+rest, got)
				}
			}
		}
	}
}

// P104: a first word with another byte in it is none, unless it is that of another command.
func TestUnknownBytes(t *testing.T) {
	t.Parallel()
	_, report := cutReport(t, impl.LinesRun(two))
	for _, first := range firstWords {
		for i := range first {
			for b := range 256 {
				word := first[:i] + string([]byte{byte(b)}) + first[i+1:]
				if slices.Contains(firstWords, word) || b == ' ' || b == '\n' {
					continue
				}
				if got := impl.LinesRun(two + word + " 1 11\n"); got != "what\n"+report {
					t.Errorf("%q is answered with %q", word+" 1 11", got)
				}
			}
		}
		// Each first word is known in itself.
		if got := impl.LinesRun(two + first + " 1 11\n"); strings.Contains(got, "what") != (first == "do") {
			t.Errorf("%q is answered with %q", first+" 1 11", got)
		}
	}
}

// P104: an invalid change prints "what", and changes nothing; a valid one prints nothing.
func TestInvalidChanges(t *testing.T) {
	t.Parallel()
	random := rand.New(rand.NewSource(1))
	count := map[bool]int{}
	for _, good := range []string{"make 11 1 0 'abcd'", "make 36 36 36 ''", "text 21 'dd'", "text 11 ''", "move 11 2 12", "move 13 35 0", "hello", ""} {
		texts := []string{good, good + " ", " " + good, good + "\t", good + "\r", good + "'", "'" + good, good + " 1", strings.ToUpper(good), good + good, strings.ReplaceAll(good, " ", "  "), strings.ReplaceAll(good, "'", "\""), strings.ReplaceAll(good, "'", "")}
		for i := range good {
			texts = append(texts, good[:i], good[i:], good[:i]+good[i+1:])
			for _, b := range []byte("0123456789abcde'-+ \x00\xff") {
				texts = append(texts, good[:i]+string([]byte{b})+good[i+1:], good[:i]+string([]byte{b})+good[i:])
			}
		}
		for _, text := range texts {
			_, ok := wantChange(text)
			count[ok]++
			// A valid change may be impossible for the client, but is understood.
			want := map[bool]string{true: "", false: "what\n"}[ok]
			for _, who := range []string{"1", "2", "3", "0", "9", "x", " "} {
				stage := []string{"", two}[random.Intn(2)]
				line := "do " + who + " " + text
				got, report := cutReport(t, impl.LinesRun(stage+line+"\n"))
				if got != want {
					t.Errorf("%q is answered with %q, want %q", line, got, want)
				}
				if _, before := cutReport(t, impl.LinesRun(stage)); !ok && report != before {
					t.Errorf("%q leads to %q", line, report)
				}
			}
			checkLines(t, two+"do 1 "+text+"\n"+sees)
		}
	}
	if count[true] < 50 || count[false] < 1000 {
		t.Errorf("%d changes are valid, and %d are not", count[true], count[false])
	}
}

// P104: an editing command prints "no" exactly where it is not possible, and then changes nothing.
func TestEditingInLines(t *testing.T) {
	t.Parallel()
	count := map[bool]int{}
	for name, stage := range map[string]string{
		"nothing": "", "two rows": two, "all": stages["all"],
		"deep":      script("do 2 make 21 1 0 ''", "do 2 make 22 21 0 ''", "do 2 make 23 22 0 ''", "do 2 make 24 22 23 ''", "calm", "gone 1 23", "out 3 24"),
		"trash":     two + script("in 1 12", "do 1 make 13 2 0 ''", "do 1 make 14 13 0 ''", "gone 1 11", "calm"),
		"no parent": two + script("do 3 make 31 25 0 ''", "do 3 make 32 25 0 ''", "calm"),
	} {
		s := scribe{w: newWorld()}
		for _, line := range strings.Split(strings.TrimSuffix(stage, "\n"), "\n") {
			s.do(line)
		}
		_, report := cutReport(t, impl.LinesRun(stage))
		printed, _ := cutReport(t, impl.LinesRun(stage+sees))
		for word, key := range keyWords {
			for who := range 12 {
				for id := range 40 {
					shown, client := s.shown(who)
					_, ok := wantKey(key, shown, id)
					count[ok && client]++
					line := fmt.Sprintf("%s %d %d\n", word, who, id)
					if ok && client {
						if got, _ := cutReport(t, impl.LinesRun(stage+line)); got != "" {
							t.Errorf("%s: %q is answered with %q", name, line, got)
						}
						checkLines(t, stage+line+sees)
						continue
					}
					if got := impl.LinesRun(stage + line + sees); got != "no\n"+printed+report {
						t.Errorf("%s: %q is answered with %q", name, line, got)
					}
				}
			}
		}
	}
	if count[true] < 50 || count[false] < 5000 {
		t.Errorf("%d commands are possible, and %d are not", count[true], count[false])
	}
}

// P104: 600 bytes are not too long, and 601 are, whatever they are.
func TestTooLong(t *testing.T) {
	calls := map[string]string{
		times(600, "x"):                                    none,
		times(600, "\n"):                                   times(600, "what\n") + none,
		times(100, "see 1\n"):                              times(100, "1\n2\n3\n") + none,
		"down\n" + times(595, " "):                         "down 0 0\n1 0 0\n2 0 0\n3 0 0\n",
		times(594, " ") + "\ndown\n":                       "what\ndown 0 0\n1 0 0\n2 0 0\n3 0 0\n",
		"down" + times(595, " ") + "\n":                    "down 0 0\n1 0 0\n2 0 0\n3 0 0\n",
		times(300, "é"):                                    none,
		times(299, "é") + "\n\n":                           "what\nwhat\n" + none,
		times(119, "sync\n") + "down\n":                    "down 0 0\n1 0 0\n2 0 0\n3 0 0\n",
		times(119, "sync\n") + "down ":                     none,
		times(597, "\xff") + "\n\x00\n":                    "what\nwhat\n" + none,
		times(85, "rise 1\n") + "see 1":                    none,
		times(84, "rise 1\n") + "see 1\n" + times(6, "\n"): "1\n2\n3\n" + times(6, "what\n") + none,
	}
	for text, want := range calls {
		if got := impl.LinesRun(text); got != want {
			t.Errorf("LinesRun(%q) = %q, want %q", text, got, want)
		}
		long := text + times(601-len(text), "\n")
		for _, more := range []string{long, long + "x", long + long, "\n" + long, times(2000, long)} {
			if got := impl.LinesRun(more); got != "too long\n" {
				t.Errorf("%d bytes are answered with %q", len(more), got)
			}
		}
	}
	for n := 590; n <= 610; n++ {
		for _, text := range []string{times(n, "x"), times(n-1, "x") + "\n", times(n, "\n"), "calm\n" + times(n-5, " ")} {
			if got := impl.LinesRun(text); (got == "too long\n") != (n > 600) {
				t.Errorf("%d bytes are answered with %q", n, got)
			}
		}
	}
}

// P105: appending "see" or "what" leaves the last lines unchanged, and prints "what" before them, unless the script becomes too long.
func TestAppending(t *testing.T) {
	t.Parallel()
	count := map[bool]int{}
	check := func(text string) {
		printed, report := cutReport(t, impl.LinesRun(text))
		for _, more := range []string{"see", "what", "see\n", "what\n", "see 0\n", "see 4 1\n", "what see 1\n", "see\nwhat\n"} {
			want := printed + times(strings.Count(more, "\n"), "what\n") + report
			long := len(text)+len(more) > 600
			if long {
				want = "too long\n"
			}
			count[long]++
			if got := impl.LinesRun(text + more); got != want {
				t.Errorf("LinesRun(%q) = %q, want %q", text+more, got, want)
			}
		}
		for who, more := range []string{"see 1\n", "see 02\n", "see 3 \n"} {
			if len(text)+len(more) > 600 {
				continue
			}
			got, after := cutReport(t, impl.LinesRun(text+more))
			shown, ok := strings.CutPrefix(got, printed)
			if after != report || !ok || !strings.HasPrefix(shown, "1\n") || strings.Count(shown, "\n") < 3 {
				t.Errorf("after %q, client %d is seen with %q and %q, and not %q", text, who+1, got, after, report)
			}
		}
	}
	for _, text := range someScripts() {
		check(text)
	}
	for _, stage := range stages {
		check(stage)
		for n := 580; n <= 600; n++ {
			check(stage + times(n-len(stage)-1, " ") + "\n")
		}
	}
	if count[true] < 100 || count[false] < 1000 {
		t.Errorf("%d scripts became too long, and %d did not", count[true], count[false])
	}
}

// Two calls with the same script answer the same, whatever goes on between them or at the same time.
func TestSameScriptSameAnswer(t *testing.T) {
	t.Parallel()
	texts := someScripts()[:200]
	want := make([]string, len(texts))
	for i, text := range texts {
		want[i] = impl.LinesRun(text)
	}
	for i := range texts {
		if got := impl.LinesRun(texts[i]); got != want[i] {
			t.Errorf("LinesRun(%q) = %q, and before it was %q", texts[i], got, want[i])
		}
	}
	var work sync.WaitGroup
	for n := range 8 {
		work.Add(1)
		go func() {
			defer work.Done()
			for i := range texts {
				i = (i + 25*n) % len(texts)
				if got := impl.LinesRun(texts[i]); got != want[i] {
					t.Errorf("LinesRun(%q) = %q, and before it was %q", texts[i], got, want[i])
				}
			}
		}()
	}
	work.Wait()
}

// No call leaves a goroutine behind.
func TestLinesEndWhatTheyStart(t *testing.T) {
	before := runtime.NumGoroutine()
	for range 50 {
		impl.LinesRun(stages["all"] + "hello\n")
	}
	for tries := 0; runtime.NumGoroutine() > before && tries < 100000; tries++ {
		runtime.Gosched()
	}
	if now := runtime.NumGoroutine(); now > before {
		t.Errorf("there are %d goroutines, and before there were %d", now, before)
	}
}

// Every line of an answer is a row, "what", "no", or one of the last four.
func TestPrintedLines(t *testing.T) {
	t.Parallel()
	row := regexp.MustCompile(`^([1-3]|\.+[1-3][1-6]( [a-d]{1,4})?)\n$`)
	for _, text := range someScripts() {
		printed, _ := cutReport(t, impl.LinesRun(text))
		lines := strings.SplitAfter(printed, "\n")
		for _, line := range slices.DeleteFunc(lines, func(l string) bool { return l == "" }) {
			if line != "what\n" && line != "no\n" && !row.MatchString(line) {
				t.Errorf("LinesRun(%q) prints %q", text, line)
			}
		}
	}
}
