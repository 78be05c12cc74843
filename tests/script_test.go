package tests

import (
	"fmt"
	"math/rand"
	"slices"
	"sort"
	"strings"
	"testing"

	"loop.example/plashet/impl"
)

// step is a line of a script and what it prints.
type step struct {
	line   string
	prints string
}

// forClients calls with what writes the numbers of three clients for the letters W, V and U, for each order of them.
func forClients(call func(with func(string) string)) {
	for _, order := range []string{"123", "132", "213", "231", "312", "321"} {
		call(strings.NewReplacer("W", order[:1], "V", order[1:2], "U", order[2:]).Replace)
	}
}

// checkSteps runs a script for each order of the clients. The last four lines are given in any order of the clients, with strokes between them.
func checkSteps(t *testing.T, report string, steps ...step) {
	t.Helper()
	forClients(func(with func(string) string) {
		t.Helper()
		var text, want string
		for _, s := range steps {
			text += with(s.line) + "\n"
			want += with(s.prints)
		}
		last := strings.Split(with(report), "|")
		sort.Strings(last[1:])
		want += script(last...)
		if got := impl.LinesRun(text); got != want {
			t.Errorf("LinesRun(%q) = %q, want %q", text, got, want)
		}
		if model := wantLines(text); model != want {
			t.Errorf("the model has %q for %q, want %q", model, text, want)
		}
	})
}

// seen is what a client sees after a script.
func seen(t *testing.T, text string, who int) string {
	t.Helper()
	before, _ := cutReport(t, impl.LinesRun(text))
	printed, _ := cutReport(t, impl.LinesRun(fmt.Sprintf("%ssee %d\n", text, who)))
	shown, ok := strings.CutPrefix(printed, before)
	if !ok {
		t.Fatalf("to see client %d after %q gives %q, and without it there is %q", who, text, printed, before)
	}
	return shown
}

// seenByAll is what all clients see after a script, which has to be the same.
func seenByAll(t *testing.T, text string) string {
	t.Helper()
	first := seen(t, text, 1)
	for _, who := range []int{2, 3} {
		if shown := seen(t, text, who); shown != first {
			t.Errorf("after %q, client %d sees %q, and client 1 %q", text, who, shown, first)
		}
	}
	return first
}

// rowsSeen are the rows of an outline that was printed.
func rowsSeen(t *testing.T, shown string) []impl.Row {
	t.Helper()
	lines := strings.Split(shown, "\n")
	rows := rowsOf(lines[:len(lines)-1]...)
	if !isOutline(rows) {
		t.Fatalf("%q is no outline", shown)
	}
	return rows
}

// below are the rows under one, in order, and how much deeper they are.
func below(t []impl.Row, id int) []impl.Row {
	i := place(t, id)
	rows := slices.Clone(t[i+1 : end(t, i)])
	for n := range rows {
		rows[n].Depth -= t[i].Depth
	}
	return rows
}

// P99: one after the other, and each is shown to the client itself only.
func TestRowsAreShownWrittenOut(t *testing.T) {
	checkSteps(t, "up 9 9|W 9 0|V 9 0|U 9 0",
		step{"do W make W1 1 0 'a'", ""},
		step{"see W", "1\n.W1 a\n2\n3\n"},
		step{"do W make W2 1 W1 ''", ""},
		step{"do W make W3 1 W2 'abcd'", ""},
		step{"see W", "1\n.W1 a\n.W2\n.W3 abcd\n2\n3\n"},
		step{"see V", "1\n2\n3\n"},
		step{"in W W2", ""},
		step{"see W", "1\n.W1 a\n..W2\n.W3 abcd\n2\n3\n"},
		step{"in W W3", ""},
		step{"see W", "1\n.W1 a\n..W2\n..W3 abcd\n2\n3\n"},
		step{"in W W3", ""},
		step{"do W make W4 W3 0 'd'", ""},
		step{"see W", "1\n.W1 a\n..W2\n...W3 abcd\n....W4 d\n2\n3\n"},
		step{"out W W3", ""},
		step{"see W", "1\n.W1 a\n..W2\n..W3 abcd\n...W4 d\n2\n3\n"},
		step{"out W W2", ""},
		step{"see W", "1\n.W1 a\n..W3 abcd\n...W4 d\n.W2\n2\n3\n"},
		step{"see V", "1\n2\n3\n"},
		step{"see U", "1\n2\n3\n"},
		step{"calm", ""},
		step{"see V", "1\n.W1 a\n..W3 abcd\n...W4 d\n.W2\n2\n3\n"},
		step{"see U", "1\n.W1 a\n..W3 abcd\n...W4 d\n.W2\n2\n3\n"},
		step{"see W", "1\n.W1 a\n..W3 abcd\n...W4 d\n.W2\n2\n3\n"},
	)
}

// P99: rows that a client creates, indents and outdents in any order are shown at once by it, and by others after a quiet period.
func TestRowsAreShown(t *testing.T) {
	t.Parallel()
	done := map[string]int{}
	for seed := range 60 {
		random := rand.New(rand.NewSource(int64(seed)))
		who, tree, text := 1+seed%3, rowsOf("1", "2", "3"), ""
		rows := 0
		for range 16 {
			word := []string{"make", "in", "in", "out"}[random.Intn(4)]
			if rows < 2 || word == "make" && rows < 6 {
				o := makeOp(made[who][rows], tree[random.Intn(len(tree))].Id, 0, goodTexts[random.Intn(len(goodTexts))])
				tree, text = wantDo(tree, o), text+fmt.Sprintf("do %d %s\n", who, impl.OpShow(o))
				rows++
				done["make"]++
			} else {
				id := made[who][random.Intn(rows)]
				if o, ok := wantKey(keyWords[word], tree, id); ok {
					tree, text = wantDo(tree, o), text+fmt.Sprintf("%s %d %d\n", word, who, id)
					done[word]++
				}
			}
			for other := 1; other <= 3; other++ {
				want := "1\n2\n3\n"
				if other == who {
					want = impl.TreeText(tree)
				}
				if got := seen(t, text, other); got != want {
					t.Errorf("after %q, client %d sees %q, want %q", text, other, got, want)
				}
			}
		}
		if got := seenByAll(t, text+"calm\n"); got != impl.TreeText(tree) {
			t.Errorf("after %q and a quiet period there is %q, want %q", text, got, impl.TreeText(tree))
		}
	}
	for _, word := range []string{"make", "in", "out"} {
		if done[word] < 50 {
			t.Errorf("%q came only %d times", word, done[word])
		}
	}
}

// P100: which of the two moves counts is a matter of the order in which the server heard them.
func TestMovesAcrossWrittenOut(t *testing.T) {
	rows := []step{
		{"do 1 make 11 1 0 'a'", ""}, {"do 3 make 31 1 0 'b'", ""}, {"calm", ""},
		{"see 1", "1\n.31 b\n.11 a\n2\n3\n"},
	}
	moves := []step{
		{"do 1 move 11 31 0", ""}, {"see 1", "1\n.31 b\n..11 a\n2\n3\n"},
		{"do 3 move 31 11 0", ""}, {"see 3", "1\n.11 a\n..31 b\n2\n3\n"},
	}
	oneFirst := "1\n.31 b\n..11 a\n2\n3\n"
	threeFirst := "1\n.11 a\n..31 b\n2\n3\n"
	for _, x := range []struct {
		between []string
		want    string
	}{
		{nil, oneFirst},
		{[]string{"send 1", "bring 0"}, oneFirst},
		{[]string{"send 3", "bring 0"}, threeFirst},
		{[]string{"send 1", "send 3", "bring 1"}, threeFirst},
		{[]string{"send 1", "send 3", "bring 1", "bring 0", "sync"}, threeFirst},
		{[]string{"send 3", "bring 0", "fall 0"}, oneFirst},
		{[]string{"send 3", "bring 0", "fall 1"}, threeFirst},
		{[]string{"send 3", "bring 0", "sync", "news 1 2", "bring 0"}, threeFirst},
		{[]string{"send 3", "down", "bring 0"}, oneFirst},
		{[]string{"send 3", "lose 0", "bring 0"}, oneFirst},
	} {
		steps := slices.Concat(rows, moves)
		for _, line := range x.between {
			steps = append(steps, step{line, ""})
		}
		steps = append(steps, step{"calm", ""}, step{"see 1", x.want}, step{"see 2", x.want}, step{"see 3", x.want})
		var text, want string
		for _, s := range steps {
			text, want = text+s.line+"\n", want+s.prints
		}
		if got := impl.LinesRun(text); got != want+"up 4 4\n1 4 0\n2 4 0\n3 4 0\n" {
			t.Errorf("LinesRun(%q) = %q, want %q", text, got, want)
		}
	}
}

// P100: two clients move each of two rows under the other one, in any outline, and the messages may go astray.
func TestMovesAcross(t *testing.T) {
	t.Parallel()
	winners := map[int]int{}
	for seed := range 300 {
		random := rand.New(rand.NewSource(int64(seed)))
		start := ""
		for who := 1; who <= 3; who++ {
			for n := range 2 {
				ups := append([]int{1, 1, 3}, made[1+random.Intn(who)][:n]...)
				start += fmt.Sprintf("do %d %s\n", who, impl.OpShow(makeOp(made[who][n], ups[random.Intn(len(ups))], 0, "")))
			}
		}
		start += "calm\n"
		before := rowsSeen(t, seenByAll(t, start))
		some := random.Perm(6)
		x, y := made[1+some[0]%3][some[0]/3], made[1+some[1]%3][some[1]/3]
		clients := random.Perm(3)
		one, two := 1+clients[0], 1+clients[1]
		text := start + fmt.Sprintf("do %d move %d %d 0\ndo %d move %d %d 0\n", one, x, y, two, y, x)
		between := []string{"", fmt.Sprintf("send %d\nbring 0\n", one), fmt.Sprintf("send %d\nbring 0\n", two), fmt.Sprintf("send %d\nsend %d\nbring 1\nbring 0\nsync\n", one, two), fmt.Sprintf("send %d\nbring 0\nfall 0\ndown\n", two)}
		text += between[seed%len(between)] + "calm\n"
		after := rowsSeen(t, seenByAll(t, text))
		if len(after) != len(before) {
			t.Errorf("after %q there is %v, and before there was %v", text, after, before)
		}
		xBelow := place(below(after, y), x) >= 0
		yBelow := place(below(after, x), y) >= 0
		if xBelow == yBelow {
			t.Errorf("after %q there is %v, where %d and %d are not one under the other", text, after, x, y)
		}
		if xBelow {
			winners[one]++
		} else {
			winners[two]++
		}
		checkLines(t, text+sees)
	}
	for who := 1; who <= 3; who++ {
		if winners[who] < 30 {
			t.Errorf("client %d was only %d times the first", who, winners[who])
		}
	}
}

// P101: one after the other.
func TestGoneWrittenOut(t *testing.T) {
	checkSteps(t, "up 7 7|W 7 0|V 7 0|U 7 0",
		step{"do W make W1 1 0 'a'", ""},
		step{"do W make W2 W1 0 'b'", ""},
		step{"do W make W3 W2 0 'c'", ""},
		step{"do W make W4 1 W1 'd'", ""},
		step{"gone W W1", ""},
		step{"see W", "1\n.W4 d\n2\n.W1 a\n..W2 b\n...W3 c\n3\n"},
		step{"gone W W3", "no\n"},
		step{"gone W W4", ""},
		step{"see W", "1\n2\n.W4 d\n.W1 a\n..W2 b\n...W3 c\n3\n"},
		step{"do W make W5 V6 W1 'aa'", ""},
		step{"see W", "1\n2\n.W4 d\n.W1 a\n..W2 b\n...W3 c\n3\n.W5 aa\n"},
		step{"see V", "1\n2\n3\n"},
		step{"calm", ""},
		step{"see V", "1\n2\n.W4 d\n.W1 a\n..W2 b\n...W3 c\n3\n.W5 aa\n"},
	)
	checkSteps(t, "up 6 6|W 6 0|V 6 0|U 6 0",
		step{"do W make W1 V6 0 ''", ""},
		step{"do W make W2 W1 V1 ''", ""},
		step{"do W make W3 W6 W1 ''", ""}, // not behind W1, though that has come to be a child of the third root
		step{"see W", "1\n2\n3\n.W3\n.W1\n..W2\n"},
		step{"do W move W2 W5 0", ""},
		step{"see W", "1\n2\n3\n.W2\n.W3\n.W1\n"},
		step{"do W move W1 1 0", ""},
		step{"do W move W3 U3 W2", ""},
		step{"calm", ""},
		step{"see W", "1\n.W1\n2\n3\n.W3\n.W2\n"},
		step{"see U", "1\n.W1\n2\n3\n.W3\n.W2\n"},
	)
}

// P101: each row of any outline, thrown away, is under the second root with all that was under it; without a parent it is the first under the third root.
func TestGone(t *testing.T) {
	t.Parallel()
	for seed := range 60 {
		random := rand.New(rand.NewSource(int64(seed)))
		who, text := 1+seed%3, ""
		for n, id := range made[who] {
			up := append([]int{1, 1, 2, 3}, made[who][:n]...)
			text += fmt.Sprintf("do %d %s\n", who, impl.OpShow(makeOp(id, up[random.Intn(len(up))], 0, "a")))
		}
		before := rowsSeen(t, seen(t, text, who))
		for _, id := range made[who] {
			under, i := below(before, id), place(before, id)
			for _, x := range []struct {
				line string
				root int
				want bool
			}{
				{fmt.Sprintf("gone %d %d\n", who, id), 2, before[rootIndex(before, i)].Id != 2},
				{fmt.Sprintf("do %d move %d %d 0\n", who, id, made[1+who%3][random.Intn(6)]), 3, true},
				{fmt.Sprintf("do %d move %d %d %d\n", who, id, made[1+who%3][0], made[who][0]), 3, true},
			} {
				for _, then := range []string{"", "calm\n"} {
					after := rowsSeen(t, seen(t, text+x.line+then, who))
					if !x.want {
						// It is there already, and stays as it is.
						if !slices.Equal(after, before) {
							t.Errorf("after %q there is %v, and before there was %v", text+x.line, after, before)
						}
						continue
					}
					root := place(after, x.root)
					if after[root+1].Id != id || after[root+1].Depth != 1 || !slices.Equal(below(after, id), under) || len(after) != len(before) {
						t.Errorf("after %q there is %v, and before there was %v", text+x.line, after, before)
					}
				}
			}
		}
		seenByAll(t, text+fmt.Sprintf("gone %d %d\ncalm\n", who, made[who][0]))
	}
}

// P102: one after the other.
func TestLostByACrashWrittenOut(t *testing.T) {
	lost := []step{{"do W make W1 1 0 'a'", ""}, {"send W", ""}, {"bring 0", ""}, {"fall 0", ""}}
	checkSteps(t, "up 1 0|W 0 1|V 0 0|U 0 0", lost[:3]...)
	checkSteps(t, "up 0 0|W 0 1|V 0 0|U 0 0", lost...)
	checkSteps(t, "up 0 0|W 0 1|V 0 0|U 0 0", append(slices.Clone(lost),
		step{"sync", ""}, step{"news V 0", ""}, step{"bring 0", ""}, step{"bring 0", ""}, step{"see V", "1\n2\n3\n"}, step{"see W", "1\n.W1 a\n2\n3\n"})...)
	checkSteps(t, "up 1 1|W 1 0|V 1 0|U 0 0", append(slices.Clone(lost),
		step{"send W", ""}, step{"bring 0", ""}, step{"sync", ""}, step{"fall 0", ""},
		step{"news W 0", ""}, step{"news V 0", ""}, step{"bring 0", ""}, step{"bring 0", ""},
		step{"see W", "1\n.W1 a\n2\n3\n"}, step{"see V", "1\n.W1 a\n2\n3\n"}, step{"see U", "1\n2\n3\n"})...)
	checkSteps(t, "up 1 1|W 1 0|V 1 0|U 1 0", append(slices.Clone(lost), step{"calm", ""}, step{"see U", "1\n.W1 a\n2\n3\n"})...)
	// A server that is down loses them too, and hears nothing until it runs again.
	checkSteps(t, "down 0 0|W 0 1|V 0 0|U 0 0", append(slices.Clone(lost[:3]), step{"down", ""}, step{"fall 0", ""}, step{"send W", ""}, step{"bring 0", ""}, step{"sync", ""})...)
	checkSteps(t, "up 1 1|W 0 1|V 0 0|U 0 0", append(slices.Clone(lost[:3]), step{"down", ""}, step{"fall 0", ""}, step{"rise", ""}, step{"send W", ""}, step{"bring 0", ""}, step{"sync", ""})...)
}

// P102: of so many entries that arrived, of which some are durable, a crash leaves so many more; all wait, and sent again and synced, all are applied.
func TestLostByACrash(t *testing.T) {
	for entries := 1; entries <= 4; entries++ {
		for durable := 0; durable <= entries; durable++ {
			for left := 0; left <= entries+1; left++ {
				steps, all := []step{}, "1\n"
				for n := 1; n <= entries; n++ {
					steps = append(steps, step{fmt.Sprintf("do W make W%d 1 0 ''", n), ""})
				}
				for n := entries; n >= 1; n-- {
					all += fmt.Sprintf(".W%d\n", n)
				}
				all += "2\n3\n"
				add := func(times int, line, prints string) {
					steps = append(steps, slices.Repeat([]step{{line, prints}}, times)...)
				}
				add(1, "send W", "")
				add(durable, "bring 0", "")
				add(1, "sync", "")
				add(entries-durable, "bring 0", "")
				add(1, fmt.Sprintf("fall %d", left), "")
				checkSteps(t, fmt.Sprintf("up %d %d|W 0 %d|V 0 0|U 0 0", min(entries, durable+left), durable, entries), steps...)
				add(1, "see W", all)
				add(1, "send W", "")
				add(entries, "bring 0", "")
				checkSteps(t, fmt.Sprintf("up %d %d|W 0 %d|V 0 0|U 0 0", entries, durable, entries), steps...)
				add(1, "sync", "")
				add(1, "news W 0", "")
				add(1, "bring 0", "")
				add(1, "see W", all)
				checkSteps(t, fmt.Sprintf("up %d %d|W %d 0|V 0 0|U 0 0", entries, entries, entries), steps...)
			}
		}
	}
}

// P103: one after the other.
func TestArrivalsWrittenOut(t *testing.T) {
	rows := []step{{"do W make W1 1 0 'a'", ""}, {"do W make W2 1 0 'b'", ""}, {"send W", ""}}
	with := func(lines ...string) []step {
		steps := slices.Clone(rows)
		for _, line := range lines {
			steps = append(steps, step{line, ""})
		}
		return steps
	}
	checkSteps(t, "up 0 0|W 0 2|V 0 0|U 0 0", with("bring 1")...)
	checkSteps(t, "up 1 0|W 0 2|V 0 0|U 0 0", with("bring 1", "bring 0")...)
	checkSteps(t, "up 2 0|W 0 2|V 0 0|U 0 0", with("bring 1", "bring 0", "send W", "bring 1")...)
	checkSteps(t, "up 1 0|W 0 2|V 0 0|U 0 0", with("twice 0", "bring 0", "bring 1")...)
	checkSteps(t, "up 2 0|W 0 2|V 0 0|U 0 0", with("twice 0", "twice 1", "bring 0", "bring 0", "bring 0", "bring 0")...)
	checkSteps(t, "up 2 2|W 0 2|V 0 0|U 0 0", with("send W", "bring 0", "bring 0", "sync", "bring 0", "bring 0")...)
	checkSteps(t, "up 1 1|W 0 2|V 0 0|U 0 0", with("twice 0", "bring 0", "sync", "fall 0", "bring 1")...)
	checkSteps(t, "up 2 2|W 2 0|V 2 0|U 2 0", with("twice 0", "bring 0", "bring 1", "calm")...)
	checkSteps(t, "up 2 2|W 2 0|V 0 0|U 0 0", with("bring 0", "bring 0", "sync", "news W 0", "bring 0", "send W", "bring 0")...)
	checkSteps(t, "up 2 2|W 2 0|V 0 0|U 0 0", with("twice 0", "bring 0", "bring 0", "sync", "news W 0", "bring 1", "bring 0")...)
}

// P103: three entries, each of which arrives any number of times, in any order: each counts only behind its predecessor, and once.
func TestArrivals(t *testing.T) {
	t.Parallel()
	sequences := [][]int{nil}
	for from := 0; len(sequences[from]) < 5; from++ {
		for n := range 3 {
			sequences = append(sequences, append(slices.Clone(sequences[from]), n))
		}
	}
	for _, sequence := range sequences {
		steps := []step{{"do W make W1 1 0 'a'", ""}, {"do W text W1 'b'", ""}, {"do W make W2 W1 0 ''", ""}, {"send W", ""}}
		recorded := 0
		for _, n := range sequence {
			// The copy is the last of four, so that the three stay as they are.
			steps = append(steps, step{fmt.Sprintf("twice %d", n), ""}, step{"bring 3", ""})
			if n == recorded {
				recorded++
			}
		}
		checkSteps(t, fmt.Sprintf("up %d 0|W 0 3|V 0 0|U 0 0", recorded), steps...)
		shown := []string{"1\n2\n3\n", "1\n.W1 a\n2\n3\n", "1\n.W1 b\n2\n3\n", "1\n.W1 b\n..W2\n2\n3\n"}[recorded]
		steps = append(steps, step{"sync", ""}, step{"news V 0", ""}, step{"bring 3", ""}, step{"see V", shown})
		checkSteps(t, fmt.Sprintf("up %d %d|W 0 3|V %d 0|U 0 0", recorded, recorded, recorded), steps...)
		steps = append(steps, step{"calm", ""}, step{"see U", "1\n.W1 b\n..W2\n2\n3\n"})
		checkSteps(t, "up 3 3|W 3 0|V 3 0|U 3 0", steps...)
	}
}

// P106: after at most 40 lines and "calm", all clients show the same.
func TestAllShowTheSame(t *testing.T) {
	t.Parallel()
	lines, rows := map[int]int{}, map[int]int{}
	for i, kinds := range tempers() {
		for seed := range 60 {
			random := rand.New(rand.NewSource(int64(1000*i + seed)))
			// With "calm" and what shows one outline, the script stays within 600 bytes.
			text := anyScript(random, kinds, 40, 588, []int{0, 10}[seed%2])
			for strings.Count(text, "\n") > 40 {
				_, text, _ = strings.Cut(text, "\n")
			}
			lines[strings.Count(text, "\n")]++
			shown := seenByAll(t, text+"calm\n")
			rows[len(rowsSeen(t, shown))]++
			n := reportNumbers(t, impl.LinesRun(text+"calm\n"))
			if n[0] != n[1] || n[2] != n[0] || n[4] != n[0] || n[6] != n[0] || n[3]+n[5]+n[7] != 0 {
				t.Errorf("after %q and a quiet period there is %v", text, n)
			}
		}
	}
	if len(rows) < 10 || lines[40] < 50 {
		t.Errorf("there are %v rows after %v lines", rows, lines)
	}
}

// P106: 40 lines can be 40 entries, of one client or of three, and that is how many have space.
func TestAllShowTheSameWrittenOut(t *testing.T) {
	moves := "in 1 12\nout 1 12\n"
	for text, want := range map[string]struct{ shown, report string }{
		"":                     {"1\n2\n3\n", none},
		two + times(19, moves): {"1\n.11 a\n.12 b\n2\n3\n", "up 40 40\n1 40 0\n2 40 0\n3 40 0\n"},
		two + times(18, moves) + "in 1 12\ngone 1 11\n":              {"1\n2\n.11 a\n..12 b\n3\n", "up 40 40\n1 40 0\n2 40 0\n3 40 0\n"},
		two + times(18, moves) + "in 1 12\ndo 3 make 31 12 0 ''\n":   {"1\n.11 a\n..12 b\n...31\n2\n3\n", "up 40 40\n1 40 0\n2 40 0\n3 40 0\n"},
		two + times(18, moves) + "do 2 make 21 1 0 'c'\ngone 1 12\n": {"1\n.21 c\n.11 a\n2\n.12 b\n3\n", "up 40 40\n1 40 0\n2 40 0\n3 40 0\n"},
		two + times(18, moves) + "down\nfall 0\n":                    {"1\n.11 a\n.12 b\n2\n3\n", "up 38 38\n1 38 0\n2 38 0\n3 38 0\n"},
		times(40, "hello\n"): {"1\n2\n3\n", none},
		times(40, "\n"):      {"1\n2\n3\n", none},
		"calm\n" + two + times(12, "send 1\nbring 0\nfall 0\n") + "in 1 12\n": {"1\n.11 a\n..12 b\n2\n3\n", "up 3 3\n1 3 0\n2 3 0\n3 3 0\n"},
	} {
		if strings.Count(text, "\n") > 40 {
			t.Errorf("%q has more than 40 lines", text)
		}
		if got := seenByAll(t, text+"calm\n"); got != want.shown {
			t.Errorf("after %q there is %q, want %q", text, got, want.shown)
		}
		if _, report := cutReport(t, impl.LinesRun(text+"calm\n")); report != want.report {
			t.Errorf("after %q there is %q, want %q", text, report, want.report)
		}
	}
}

// Beyond 40 entries there is no space: a client has none for its next one, which prints nothing, as the command in itself is possible; and what others have done waits.
func TestBeyondTheLog(t *testing.T) {
	full := two + times(19, "in 1 12\nout 1 12\n")
	for text, want := range map[string]string{
		full:                                             "up 0 0\n1 0 40\n2 0 0\n3 0 0\n",
		full + "in 1 12\n":                               "up 0 0\n1 0 40\n2 0 0\n3 0 0\n",
		full + "in 1 12\nsee 1\n":                        "1\n.11 a\n.12 b\n2\n3\nup 0 0\n1 0 40\n2 0 0\n3 0 0\n",
		full + "in 1 11\nout 1 12\n":                     "no\nno\nup 0 0\n1 0 40\n2 0 0\n3 0 0\n",
		full + "do 1 text 11 'c'\nsee 1\n":               "1\n.11 a\n.12 b\n2\n3\nup 0 0\n1 0 40\n2 0 0\n3 0 0\n",
		full + "calm\ngone 1 12\nsee 1\n":                "1\n.11 a\n.12 b\n2\n3\nup 40 40\n1 40 0\n2 40 0\n3 40 0\n",
		full + "calm\ngone 2 12\nsee 2\n":                "1\n.11 a\n2\n.12 b\n3\nup 40 40\n1 40 0\n2 40 1\n3 40 0\n",
		full + "do 2 make 21 1 0 ''\ncalm\n":             "up 40 40\n1 40 0\n2 40 1\n3 40 0\n",
		"do 3 make 31 1 0 ''\n" + full + "calm\nsee 3\n": "1\n.31\n.11 a\n.12 b\n2\n3\nup 40 40\n1 40 0\n2 40 0\n3 40 1\n",
		// Thirteen entries wait, of which twelve have space in transit.
		two + times(11, "do 1 text 12 'c'\n") + "send 1\n" + times(13, "bring 0\n"): "up 12 0\n1 0 13\n2 0 0\n3 0 0\n",
	} {
		if got := impl.LinesRun(text); got != want {
			t.Errorf("LinesRun(%q) = %q, want %q", text, got, want)
		}
		checkLines(t, text)
	}
}
