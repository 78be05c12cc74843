package tests

import (
	"math"
	"math/rand"
	"slices"
	"testing"

	"loop.example/plashet/impl"
)

// serverOf is a server with a copy of a log.
func serverOf(l []impl.Entry, safe int, up bool) impl.Server {
	return impl.Server{Log: slices.Clone(l), Safe: safe, Up: up}
}

// sameServer says whether two servers are equal; an empty log is equal to nil.
func sameServer(a, b impl.Server) bool {
	return slices.Equal(a.Log, b.Log) && a.Safe == b.Safe && a.Up == b.Up
}

// noServer says whether a server is the zero value.
func noServer(s impl.Server) bool {
	return sameServer(s, impl.Server{})
}

// wantHear is what ServerHear has to return for a valid server and a valid entry.
func wantHear(s impl.Server, e impl.Entry) (impl.Server, bool) {
	l, n := wantAdd(s.Log, e)
	if !s.Up || n != 1 {
		return s, false
	}
	return serverOf(l, s.Safe, true), true
}

// wantFall is what ServerFall has to return for a valid server and number, found entry by entry.
func wantFall(s impl.Server, left int) impl.Server {
	after := impl.Server{Safe: s.Safe, Up: s.Up}
	for i, e := range s.Log {
		if i >= s.Safe {
			left--
		}
		if left >= 0 {
			after.Log = append(after.Log, e)
		}
	}
	return after
}

// wantNews is what ServerNews has to return for a valid server, found entry by entry.
func wantNews(s impl.Server, from int) []impl.Entry {
	var news []impl.Entry
	for i, e := range s.Log {
		if s.Up && from >= 0 && i >= from && i < s.Safe {
			news = append(news, e)
		}
	}
	return news
}

// serversOf are all with a log: with each number of durable entries, running and not.
func serversOf(l []impl.Entry) []impl.Server {
	var all []impl.Server
	for safe := range len(l) + 1 {
		all = append(all, serverOf(l, safe, true), serverOf(l, safe, false))
	}
	return all
}

// smallServers are all with up to three entries that have changes of smallChanges.
func smallServers() []impl.Server {
	var all []impl.Server
	for _, l := range smallLogs() {
		if len(l) <= 3 {
			all = append(all, serversOf(l)...)
		}
	}
	return all
}

// largeServers have logs of all lengths, by several clients and by one.
func largeServers() []impl.Server {
	var all []impl.Server
	for length := range 41 {
		all = append(all, serversOf(grownLog(int64(length), length))...)
		all = append(all, serversOf(lonelyLog(1+length%3, length))...)
	}
	return all
}

// someServers are valid ones: without entries, all small ones and many large ones.
func someServers() []impl.Server {
	return append(smallServers(), largeServers()...)
}

// eachHear goes over servers and valid entries, of which some are there, some are the next ones, and some are neither.
func eachHear(call func(s impl.Server, e impl.Entry)) {
	small := smallEntries(5)
	for _, s := range smallServers() {
		for _, e := range small {
			call(s, e)
		}
	}
	for length := range 41 {
		l := grownLog(int64(length), length)
		if length%3 == 0 {
			l = lonelyLog(1+length%2, length)
		}
		entries := largeEntries(l)
		for _, safe := range []int{0, length / 2, length} {
			for _, e := range entries {
				call(serverOf(l, safe, true), e)
				call(serverOf(l, safe, false), e)
			}
		}
	}
}

// notServers are invalid ones, by what is wrong with them.
func notServers() map[string]impl.Server {
	all := map[string]impl.Server{}
	logs := map[string][]impl.Entry{
		"nil": nil, "empty": {}, "one": logOf("1 1 text 11 'a'"), "two": logOf("1 1 text 11 'a'", "2 1 text 11 'b'"), "full": grownLog(3, 40), "capacity": make([]impl.Entry, 1, 9)[:0],
	}
	for what, l := range logs {
		for _, up := range []bool{true, false} {
			all["Safe beyond: "+what+onOff(up)] = impl.Server{Log: l, Safe: len(l) + 1, Up: up}
			all["Safe far beyond: "+what+onOff(up)] = impl.Server{Log: l, Safe: math.MaxInt, Up: up}
			all["Safe is 41: "+what+onOff(up)] = impl.Server{Log: l, Safe: 41, Up: up}
			all["Safe is -1: "+what+onOff(up)] = impl.Server{Log: l, Safe: -1, Up: up}
			all["Safe is -len: "+what+onOff(up)] = impl.Server{Log: l, Safe: -len(l) - 1, Up: up}
			all["Safe is least: "+what+onOff(up)] = impl.Server{Log: l, Safe: math.MinInt, Up: up}
		}
	}
	for what, l := range notLogs() {
		all[what+", nothing durable"] = impl.Server{Log: l, Up: true}
		all[what+", all durable"] = impl.Server{Log: l, Safe: len(l), Up: true}
		all[what+", not the last"] = impl.Server{Log: l, Safe: len(l) - 1, Up: true}
		all[what+", not running"] = impl.Server{Log: l, Safe: len(l)}
		all[what+", Safe -1"] = impl.Server{Log: l, Safe: -1, Up: true}
		all[what+", Safe beyond"] = impl.Server{Log: l, Safe: len(l) + 1, Up: true}
	}
	return all
}

func onOff(up bool) string {
	if up {
		return ", running"
	}
	return ", not running"
}

// badLefts are numbers that ServerFall does not take.
func badLefts() []int {
	return []int{-1, -2, -40, math.MinInt, math.MinInt + 1, 41, 42, 80, math.MaxInt, math.MaxInt - 1, math.MaxInt32, math.MinInt32}
}

// untouchedServer calls with a server whose log has spare capacity and fails if any of its memory was written to.
func untouchedServer(t *testing.T, s impl.Server, call func(s impl.Server)) {
	t.Helper()
	untouchedLog(t, s.Log, func(l []impl.Entry) { call(impl.Server{Log: l, Safe: s.Safe, Up: s.Up}) })
}

func TestServerNew(t *testing.T) {
	s := impl.ServerNew()
	if len(s.Log) != 0 || s.Safe != 0 || !s.Up || !impl.ServerOk(s) {
		t.Errorf("ServerNew() = %v", s)
	}
	for from := -1; from <= 1; from++ {
		if news := impl.ServerNews(s, from); len(news) != 0 {
			t.Errorf("ServerNews from %d of a new server = %v", from, news)
		}
	}
}

// A server from its beginning on, with what each step has to give: who hears what, what is durable, and what a fall takes.
func TestServerWrittenOut(t *testing.T) {
	lines := []string{"1 1 make 11 1 0 'a'", "2 1 text 11 'b'", "1 2 move 11 2 0", "3 1 make 31 11 0 ''"}
	all := logOf(lines...)
	s := impl.ServerNew()
	hear := func(i int, want bool) {
		t.Helper()
		var ok bool
		if s, ok = impl.ServerHear(s, all[i]); ok != want {
			t.Errorf("ServerHear of %s is %v", lines[i], ok)
		}
	}
	check := func(entries, safe int, up bool) {
		t.Helper()
		if !sameServer(s, serverOf(all[:entries], safe, up)) {
			t.Fatalf("the server is %v", s)
		}
		want := all[:safe]
		if !up {
			want = nil
		}
		if news := impl.ServerNews(s, 0); !slices.Equal(news, want) {
			t.Errorf("of %v there are the news %v", s, news)
		}
	}
	hear(2, false) // there is no entry 1 of client 1
	check(0, 0, true)
	hear(0, true)
	hear(0, false)
	check(1, 0, true)
	s = impl.ServerFall(s, 0)
	check(0, 0, true)
	hear(0, true)
	hear(1, true)
	s, _ = impl.ServerSync(s)
	check(2, 2, true)
	hear(2, true)
	hear(3, true)
	check(4, 2, true)
	s = impl.ServerFall(s, 1)
	check(3, 2, true)
	s = impl.ServerFall(s, 1)
	check(3, 2, true)
	s.Up = false
	hear(3, false)
	check(3, 2, false)
	if same, ok := impl.ServerSync(s); ok || !sameServer(same, s) {
		t.Errorf("ServerSync of a server that is not running = %v, %v", same, ok)
	}
	s = impl.ServerFall(s, 0)
	check(2, 2, false)
	s.Up = true
	hear(3, true)
	if s.Log[2] != all[3] || s.Safe != 2 {
		t.Errorf("the server is %v", s)
	}
	hear(2, true)
	s, _ = impl.ServerSync(s)
	want := []impl.Entry{all[0], all[1], all[3], all[2]}
	if news := impl.ServerNews(s, 0); !slices.Equal(news, want) || s.Safe != 4 {
		t.Errorf("after all the server is %v with the news %v", s, news)
	}
}

// P57: Safe is from 0 to the number of entries, whether the server is running or not.
func TestServerOk(t *testing.T) {
	t.Parallel()
	for _, s := range someServers() {
		if !impl.ServerOk(s) {
			t.Fatalf("%v is invalid", s)
		}
		for _, safe := range append([]int{len(s.Log) + 1, len(s.Log) + 2, 41, -1, -2, -len(s.Log) - 1, math.MaxInt, math.MinInt}, farNumbers...) {
			if bad := serverOf(s.Log, safe, s.Up); impl.ServerOk(bad) {
				t.Fatalf("%v is valid", bad)
			}
		}
		if cut := serverOf(s.Log[:s.Safe], s.Safe, s.Up); !impl.ServerOk(cut) {
			t.Fatalf("%v is invalid", cut)
		}
	}
	for what, s := range notServers() {
		if impl.ServerOk(s) {
			t.Errorf("%s: %v is valid", what, s)
		}
	}
}

// P57: the number of entries is the limit, not LogMax.
func TestServerOkWrittenOut(t *testing.T) {
	two := logOf("1 1 text 11 'a'", "2 1 text 11 'b'")
	for _, c := range []struct {
		l    []impl.Entry
		safe int
		want bool
	}{
		{nil, 0, true}, {nil, 1, false}, {nil, -1, false}, {[]impl.Entry{}, 0, true}, {[]impl.Entry{}, 1, false},
		{two, 0, true}, {two, 1, true}, {two, 2, true}, {two, 3, false}, {two, 40, false}, {two, -1, false}, {two, -2, false},
		{grownLog(1, 39), 39, true}, {grownLog(1, 39), 40, false},
		{grownLog(1, 40), 0, true}, {grownLog(1, 40), 40, true}, {grownLog(1, 40), 41, false}, {grownLog(1, 40), -1, false},
		{grownLog(1, 41), 0, false}, {grownLog(1, 41), 40, false}, {grownLog(1, 41), 41, false},
		{[]impl.Entry{two[0], two[0]}, 0, false}, {[]impl.Entry{two[0], two[0]}, 1, false}, {[]impl.Entry{two[0], {}}, 1, false},
	} {
		for _, up := range []bool{true, false} {
			if got := impl.ServerOk(serverOf(c.l, c.safe, up)); got != c.want {
				t.Errorf("ServerOk with %d entries and Safe %d, Up %v, is %v", len(c.l), c.safe, up, got)
			}
		}
	}
}

// P57: a server without the entries that are not durable stays valid, as it does with any number of these.
func TestServerStaysValid(t *testing.T) {
	t.Parallel()
	for _, s := range someServers() {
		for end := s.Safe; end <= len(s.Log); end++ {
			if cut := serverOf(s.Log[:end], s.Safe, s.Up); !impl.ServerOk(cut) {
				t.Fatalf("%v is invalid", cut)
			}
		}
		for end := range s.Safe {
			if cut := serverOf(s.Log[:end], s.Safe, s.Up); impl.ServerOk(cut) {
				t.Fatalf("%v is valid", cut)
			}
		}
		synced, _ := impl.ServerSync(s)
		for _, after := range []impl.Server{synced, impl.ServerFall(s, 0), impl.ServerFall(s, 1), impl.ServerFall(s, 40)} {
			if !impl.ServerOk(after) {
				t.Fatalf("%v comes of %v and is invalid", after, s)
			}
		}
	}
}

// P52: ServerHear is as the document has it, and is each of its results often.
func TestServerHearAsStated(t *testing.T) {
	t.Parallel()
	seen := map[bool]int{}
	eachHear(func(s impl.Server, e impl.Entry) {
		got, ok := impl.ServerHear(s, e)
		want, wantOk := wantHear(s, e)
		if ok != wantOk || !sameServer(got, want) {
			t.Fatalf("ServerHear(%v, %v) = %v, %v, want %v, %v", s, e, got, ok, want, wantOk)
		}
		seen[ok]++
	})
	if seen[true] < 1000 || seen[false] < 1000 {
		t.Errorf("ServerHear succeeded %d times and failed %d times", seen[true], seen[false])
	}
}

// P52: ServerHear succeeds if and only if the server is running and LogAdd is 1; Safe and Up are as before, and the server is valid.
func TestServerHearAndLogAdd(t *testing.T) {
	t.Parallel()
	eachHear(func(s impl.Server, e impl.Entry) {
		got, ok := impl.ServerHear(s, e)
		l, n := impl.LogAdd(s.Log, e)
		if ok != (s.Up && n == 1) || got.Safe != s.Safe || got.Up != s.Up || !impl.ServerOk(got) {
			t.Fatalf("ServerHear(%v, %v) = %v, %v, and LogAdd is %d", s, e, got, ok, n)
		}
		if !ok {
			l = s.Log
		}
		if !slices.Equal(got.Log, l) {
			t.Fatalf("ServerHear(%v, %v) = %v, %v", s, e, got, ok)
		}
	})
}

// P52: the edge cases, one by one.
func TestServerHearWrittenOut(t *testing.T) {
	l := logOf("1 1 text 11 'a'", "2 1 text 11 'b'")
	first, almost, full := lonelyLog(1, 1), lonelyLog(1, 39), lonelyLog(1, 40)
	for _, c := range []struct {
		what string
		l    []impl.Entry
		e    impl.Entry
		want bool
	}{
		{"the first one", nil, first[0], true},
		{"the first one of a full log", nil, full[0], true},
		{"the first one, in a log that is not nil", []impl.Entry{}, entryOf(3, 1, "text 11 'a'"), true},
		{"the second one without the first", nil, entryOf(3, 2, "text 11 'a'"), false},
		{"the next one", l, entryOf(1, 2, "text 11 'c'"), true},
		{"the same change as the next one", l, entryOf(1, 2, "text 11 'a'"), true},
		{"the next one of another client", l, entryOf(2, 2, "text 11 'c'"), true},
		{"the first one of another client", l, entryOf(3, 1, "text 11 'c'"), true},
		{"a present one", l, l[0], false},
		{"the last present one", l, l[1], false},
		{"a present number with another change", l, entryOf(1, 1, "text 11 'b'"), false},
		{"beyond the next number", l, entryOf(1, 3, "text 11 'c'"), false},
		{"beyond the next number of another client", l, entryOf(3, 2, "text 11 'c'"), false},
		{"far beyond the next number", l, entryOf(2, 40, "text 11 'c'"), false},
		{"the 40th", almost, entryOf(1, 40, "text 11 'c'"), true},
		{"the 40th, of another client", almost, entryOf(2, 1, "text 11 'c'"), true},
		{"one of 39", almost, almost[38], false},
		{"the 41st, of another client", full, entryOf(2, 1, "text 11 'c'"), false},
		{"the last of 40", full, full[39], false},
		{"another 40th", full, entryOf(1, 40, "text 36 'dcba'"), false},
	} {
		for _, s := range serversOf(c.l) {
			want := s
			if c.want && s.Up {
				want.Log = append(slices.Clone(c.l), c.e)
			}
			if got, ok := impl.ServerHear(s, c.e); ok != (c.want && s.Up) || !sameServer(got, want) {
				t.Errorf("%s: ServerHear(%v, %v) = %v, %v", c.what, s, c.e, got, ok)
			}
		}
	}
}

// P52: a server fills up to 40 entries, whatever is made durable on the way, and no further.
func TestServerFillsUp(t *testing.T) {
	for _, every := range []int{1, 3, 40, 100} {
		s := impl.ServerNew()
		for i, e := range grownLog(int64(every), 40) {
			var ok bool
			if s, ok = impl.ServerHear(s, e); !ok || len(s.Log) != i+1 || s.Safe != i/every*every {
				t.Fatalf("after entry %d the server is %v, %v", i, s, ok)
			}
			if (i+1)%every == 0 {
				s, _ = impl.ServerSync(s)
			}
		}
		for who := 1; who <= 3; who++ {
			next := impl.Entry{Who: who, Seq: impl.LogSeq(s.Log, who) + 1, Op: textOp(11, "a")}
			if got, ok := impl.ServerHear(s, next); ok || !sameServer(got, s) {
				t.Errorf("a server with 40 entries hears %v and becomes %v", next, got)
			}
		}
	}
}

// P53: after ServerSync of a running server all entries are durable, and none is lost by ServerFall of 0; of one that is not running nothing changes.
func TestServerSync(t *testing.T) {
	t.Parallel()
	for _, s := range someServers() {
		got, ok := impl.ServerSync(s)
		want := s
		if s.Up {
			want.Safe = len(s.Log)
		}
		if ok != s.Up || !sameServer(got, want) {
			t.Fatalf("ServerSync(%v) = %v, %v", s, got, ok)
		}
		if again, okAgain := impl.ServerSync(got); okAgain != ok || !sameServer(again, got) {
			t.Fatalf("ServerSync(%v) = %v, %v", got, again, okAgain)
		}
		if fallen := impl.ServerFall(got, 0); ok && !sameServer(fallen, got) {
			t.Fatalf("ServerFall(%v, 0) = %v", got, fallen)
		}
	}
}

// P53: not running, without entries, with all entries durable already, and with none.
func TestServerSyncWrittenOut(t *testing.T) {
	two := logOf("1 1 text 11 'a'", "2 1 text 11 'b'")
	for _, c := range []struct {
		s    impl.Server
		safe int
		ok   bool
	}{
		{impl.ServerNew(), 0, true},
		{impl.Server{}, 0, false},
		{impl.Server{Log: []impl.Entry{}, Up: true}, 0, true},
		{serverOf(two, 0, true), 2, true},
		{serverOf(two, 1, true), 2, true},
		{serverOf(two, 2, true), 2, true},
		{serverOf(two, 0, false), 0, false},
		{serverOf(two, 1, false), 1, false},
		{serverOf(two, 2, false), 2, false},
		{serverOf(grownLog(1, 40), 0, true), 40, true},
		{serverOf(grownLog(1, 40), 40, true), 40, true},
		{serverOf(grownLog(1, 40), 17, false), 17, false},
	} {
		got, ok := impl.ServerSync(c.s)
		if ok != c.ok || !sameServer(got, serverOf(c.s.Log, c.safe, c.s.Up)) {
			t.Errorf("ServerSync(%v) = %v, %v", c.s, got, ok)
		}
	}
}

// P54: ServerFall is as the document has it, with every number it takes.
func TestServerFallAsStated(t *testing.T) {
	t.Parallel()
	for _, s := range someServers() {
		for left := range 41 {
			if got, want := impl.ServerFall(s, left), wantFall(s, left); !sameServer(got, want) {
				t.Fatalf("ServerFall(%v, %d) = %v, want %v", s, left, got, want)
			}
		}
	}
}

// P54: what is left is a prefix with at least the durable entries and at most so many more; falling twice with 0 is falling once.
func TestServerFallLeavesAPrefix(t *testing.T) {
	t.Parallel()
	for _, s := range someServers() {
		for left := range 41 {
			got := impl.ServerFall(s, left)
			n := len(got.Log)
			if n < s.Safe || n > s.Safe+left || n > len(s.Log) || !slices.Equal(got.Log, s.Log[:n]) {
				t.Fatalf("ServerFall(%v, %d) = %v", s, left, got)
			}
			if n < s.Safe+left && n < len(s.Log) {
				t.Fatalf("ServerFall(%v, %d) = %v takes too much", s, left, got)
			}
			if got.Safe != s.Safe || got.Up != s.Up || !impl.ServerOk(got) {
				t.Fatalf("ServerFall(%v, %d) = %v", s, left, got)
			}
		}
		once := impl.ServerFall(s, 0)
		if len(once.Log) != s.Safe || !sameServer(impl.ServerFall(once, 0), once) {
			t.Fatalf("ServerFall(%v, 0) = %v, and again %v", s, once, impl.ServerFall(once, 0))
		}
	}
}

// P54: none, fewer, just as many and more than the entries that are not durable.
func TestServerFallWrittenOut(t *testing.T) {
	five := logOf("1 1 text 11 'a'", "2 1 text 11 'b'", "1 2 text 12 'c'", "3 1 text 11 'd'", "2 2 text 12 'a'")
	full := grownLog(5, 40)
	for _, c := range []struct {
		l                []impl.Entry
		safe, left, want int
	}{
		{nil, 0, 0, 0}, {nil, 0, 1, 0}, {nil, 0, 40, 0},
		{five, 0, 0, 0}, {five, 0, 1, 1}, {five, 0, 4, 4}, {five, 0, 5, 5}, {five, 0, 6, 5}, {five, 0, 40, 5},
		{five, 2, 0, 2}, {five, 2, 1, 3}, {five, 2, 2, 4}, {five, 2, 3, 5}, {five, 2, 4, 5}, {five, 2, 39, 5}, {five, 2, 40, 5},
		{five, 5, 0, 5}, {five, 5, 1, 5}, {five, 5, 5, 5}, {five, 5, 40, 5},
		{full, 0, 0, 0}, {full, 0, 39, 39}, {full, 0, 40, 40}, {full, 1, 38, 39}, {full, 1, 39, 40}, {full, 1, 40, 40},
		{full, 40, 0, 40}, {full, 40, 1, 40}, {full, 40, 40, 40}, {full, 39, 0, 39}, {full, 39, 1, 40},
	} {
		for _, up := range []bool{true, false} {
			s := serverOf(c.l, c.safe, up)
			if got := impl.ServerFall(s, c.left); !sameServer(got, serverOf(c.l[:c.want], c.safe, up)) {
				t.Errorf("ServerFall of %d entries with Safe %d and %d left = %v", len(c.l), c.safe, c.left, got)
			}
		}
	}
}

// P54: numbers out of the range, of servers that are valid.
func TestServerFallWithoutANumber(t *testing.T) {
	t.Parallel()
	for _, s := range someServers() {
		for _, left := range badLefts() {
			if got := impl.ServerFall(s, left); !noServer(got) {
				t.Fatalf("ServerFall(%v, %d) = %v", s, left, got)
			}
		}
	}
}

// P55: ServerNews is as the document has it, and empty for numbers out of the range.
func TestServerNewsAsStated(t *testing.T) {
	t.Parallel()
	for _, s := range someServers() {
		for from := -2; from <= 43; from++ {
			if got, want := impl.ServerNews(s, from), wantNews(s, from); !slices.Equal(got, want) {
				t.Fatalf("ServerNews(%v, %d) = %v, want %v", s, from, got, want)
			}
		}
		for _, from := range append([]int{math.MaxInt, math.MinInt, -41, -40}, farNumbers...) {
			if got := impl.ServerNews(s, from); len(got) != 0 {
				t.Fatalf("ServerNews(%v, %d) = %v", s, from, got)
			}
		}
	}
}

// P55: no entry that is not durable is among the news, not even in the capacity behind them, and there are none of a server that is not running.
func TestServerNewsAreSafe(t *testing.T) {
	t.Parallel()
	for _, s := range someServers() {
		for from := range s.Safe + 2 {
			news := impl.ServerNews(s, from)
			if !s.Up && len(news) != 0 {
				t.Fatalf("ServerNews(%v, %d) = %v", s, from, news)
			}
			behind := news[len(news):cap(news)]
			for _, e := range s.Log[s.Safe:] {
				if slices.Contains(news, e) || slices.Contains(behind, e) {
					t.Fatalf("ServerNews(%v, %d) = %v, and behind it %v", s, from, news, behind)
				}
			}
		}
	}
}

// P55: the news are the same in one part and in two.
func TestServerNewsInTwoParts(t *testing.T) {
	t.Parallel()
	for _, s := range someServers() {
		if !s.Up {
			continue
		}
		whole := impl.ServerNews(s, 0)
		if !slices.Equal(whole, s.Log[:s.Safe]) {
			t.Fatalf("ServerNews(%v, 0) = %v", s, whole)
		}
		for from := range s.Safe + 1 {
			if rest := impl.ServerNews(s, from); !slices.Equal(append(slices.Clone(whole[:from]), rest...), whole) {
				t.Fatalf("ServerNews(%v, %d) = %v", s, from, rest)
			}
		}
	}
}

// P55: a client that fetches while the server goes on gets each entry once.
func TestServerNewsWhileItGoesOn(t *testing.T) {
	l := grownLog(11, 40)
	s := impl.ServerNew()
	var fetched []impl.Entry
	for i, e := range l {
		s, _ = impl.ServerHear(s, e)
		if i%4 == 2 {
			s, _ = impl.ServerSync(s)
		}
		if i%3 == 0 {
			fetched = append(fetched, impl.ServerNews(s, len(fetched))...)
		}
		if !slices.Equal(fetched, l[:len(fetched)]) || len(fetched) > s.Safe {
			t.Fatalf("after %d entries there are fetched %v", i+1, fetched)
		}
	}
	s, _ = impl.ServerSync(s)
	if fetched = append(fetched, impl.ServerNews(s, len(fetched))...); !slices.Equal(fetched, l) {
		t.Errorf("at the end there are fetched %v", fetched)
	}
}

// P55: from 0, from Safe and beyond, and of a server that is not running.
func TestServerNewsWrittenOut(t *testing.T) {
	l := logOf("1 1 text 11 'a'", "2 1 text 11 'b'", "1 2 text 12 'c'", "3 1 text 11 'd'")
	for _, c := range []struct {
		safe, from int
		want       []impl.Entry
	}{
		{0, 0, nil}, {0, 1, nil}, {0, -1, nil},
		{1, 0, l[:1]}, {1, 1, nil}, {1, 2, nil},
		{3, -1, nil}, {3, 0, l[:3]}, {3, 1, l[1:3]}, {3, 2, l[2:3]}, {3, 3, nil}, {3, 4, nil}, {3, 5, nil}, {3, 40, nil}, {3, 41, nil},
		{4, 0, l}, {4, 3, l[3:]}, {4, 4, nil}, {4, 5, nil},
	} {
		if got := impl.ServerNews(serverOf(l, c.safe, true), c.from); !slices.Equal(got, c.want) {
			t.Errorf("ServerNews with Safe %d from %d = %v, want %v", c.safe, c.from, got, c.want)
		}
		if got := impl.ServerNews(serverOf(l, c.safe, false), c.from); len(got) != 0 {
			t.Errorf("ServerNews with Safe %d from %d, not running, = %v", c.safe, c.from, got)
		}
	}
}

// P56: entries of two clients are in the log as they arrived, in either order.
func TestServerHearsInTheOrderOfArrival(t *testing.T) {
	t.Parallel()
	for _, s := range someServers() {
		if !s.Up || len(s.Log) > 38 {
			continue
		}
		for who := 1; who <= 3; who++ {
			for _, other := range []int{who%3 + 1, (who+1)%3 + 1} {
				one := impl.Entry{Who: who, Seq: impl.LogSeq(s.Log, who) + 1, Op: smallChanges[who][0]}
				two := impl.Entry{Who: other, Seq: impl.LogSeq(s.Log, other) + 1, Op: smallChanges[other][1]}
				first, ok := impl.ServerHear(s, one)
				second, okToo := impl.ServerHear(first, two)
				if !ok || !okToo || !sameServer(second, serverOf(append(slices.Clone(s.Log), one, two), s.Safe, true)) {
					t.Fatalf("of %v, after %v and %v there is %v", s, one, two, second)
				}
			}
		}
	}
}

// P56: all ways in which three entries of one client and three of another can arrive.
func TestServerHearsEveryOrder(t *testing.T) {
	ones := logOf("1 1 make 11 1 0 'a'", "1 2 text 11 'b'", "1 3 move 11 2 0")
	twos := logOf("2 1 make 21 11 0 'a'", "2 2 text 11 'c'", "2 3 move 11 21 0")
	for mask := range 64 {
		var arrived []impl.Entry
		n, m := 0, 0
		for bit := range 6 {
			if mask>>bit&1 == 0 && n < 3 {
				arrived = append(arrived, ones[n])
				n++
			} else if m < 3 {
				arrived = append(arrived, twos[m])
				m++
			}
		}
		s := impl.ServerNew()
		for _, e := range arrived {
			var ok bool
			if s, ok = impl.ServerHear(s, e); !ok {
				t.Fatalf("%v is not heard after %v", e, s.Log)
			}
		}
		if !sameServer(s, serverOf(arrived, 0, true)) {
			t.Fatalf("what arrived as %v is %v", arrived, s)
		}
	}
}

// P58: an entry is heard once, also after ServerSync, and after ServerFall then; only one that was lost is heard again.
func TestServerHearsOnce(t *testing.T) {
	t.Parallel()
	eachHear(func(s impl.Server, e impl.Entry) {
		heard, ok := impl.ServerHear(s, e)
		if !ok {
			return
		}
		synced, _ := impl.ServerSync(heard)
		for _, after := range []impl.Server{heard, synced, impl.ServerFall(synced, 0), impl.ServerFall(synced, 40), impl.ServerFall(heard, 40)} {
			if again, okAgain := impl.ServerHear(after, e); okAgain || !sameServer(again, after) {
				t.Fatalf("ServerHear(%v, %v) = %v, %v", after, e, again, okAgain)
			}
		}
		if s.Safe != len(s.Log) {
			return
		}
		lost := impl.ServerFall(heard, 0)
		if again, okAgain := impl.ServerHear(lost, e); !sameServer(lost, s) || !okAgain || !sameServer(again, heard) {
			t.Fatalf("ServerHear(%v, %v) = %v, %v", lost, e, again, okAgain)
		}
	})
}

// P59: after ServerSync the news from the beginning are all entries, and a fall changes nothing of it.
func TestServerNewsAfterSync(t *testing.T) {
	t.Parallel()
	for _, s := range someServers() {
		synced, ok := impl.ServerSync(s)
		if !ok {
			continue
		}
		if news := impl.ServerNews(synced, 0); !slices.Equal(news, s.Log) {
			t.Fatalf("ServerNews(%v, 0) = %v", synced, news)
		}
		for _, left := range []int{0, 1, 2, 39, 40} {
			if news := impl.ServerNews(impl.ServerFall(synced, left), 0); !slices.Equal(news, s.Log) {
				t.Fatalf("ServerNews(%v, 0) after ServerFall of %d = %v", synced, left, news)
			}
		}
	}
}

// P60: ServerFall does not change ServerNews, from wherever they are fetched.
func TestServerFallKeepsTheNews(t *testing.T) {
	t.Parallel()
	for _, s := range someServers() {
		for _, left := range []int{0, 1, 2, 5, 39, 40} {
			fallen := impl.ServerFall(s, left)
			for _, from := range []int{-1, 0, 1, 2, s.Safe / 2, s.Safe - 1, s.Safe, s.Safe + 1, 40, 41} {
				before, after := impl.ServerNews(s, from), impl.ServerNews(fallen, from)
				if !slices.Equal(before, after) {
					t.Fatalf("ServerNews(%v, %d) = %v, and after ServerFall of %d %v", s, from, before, left, after)
				}
			}
		}
	}
}

// P52 to P55: nothing comes of a server that is invalid.
func TestNothingComesOfAnInvalidServer(t *testing.T) {
	t.Parallel()
	entries := append(smallEntries(3), entryOf(1, 40, "text 11 'a'"), impl.Entry{}, entryOf(4, 1, "text 11 'a'"))
	lefts := append(badLefts(), 0, 1, 2, 39, 40)
	for what, s := range notServers() {
		if impl.ServerOk(s) {
			t.Errorf("%s: %v is valid", what, s)
		}
		for _, e := range append(slices.Clone(s.Log), entries...) {
			if got, ok := impl.ServerHear(s, e); ok || !noServer(got) {
				t.Errorf("%s: ServerHear of %v = %v, %v", what, e, got, ok)
			}
		}
		if got, ok := impl.ServerSync(s); ok || !noServer(got) {
			t.Errorf("%s: ServerSync = %v, %v", what, got, ok)
		}
		for _, left := range lefts {
			if got := impl.ServerFall(s, left); !noServer(got) {
				t.Errorf("%s: ServerFall of %d = %v", what, left, got)
			}
		}
		for _, from := range append([]int{-1, 0, 1, 2, s.Safe, len(s.Log), 40, 41}, farNumbers...) {
			if got := impl.ServerNews(s, from); len(got) != 0 {
				t.Errorf("%s: ServerNews from %d = %v", what, from, got)
			}
		}
	}
}

// P52: no server comes of an invalid entry, whether the server is running or not.
func TestServerHearOfAnInvalidEntry(t *testing.T) {
	var servers []impl.Server
	for _, l := range [][]impl.Entry{nil, {}, logOf("1 1 text 11 'a'"), logOf("2 1 text 11 'a'", "3 1 text 11 'a'"), lonelyLog(1, 39), lonelyLog(1, 40)} {
		servers = append(servers, serverOf(l, 0, true), serverOf(l, len(l), true), serverOf(l, len(l)/2, false))
	}
	for what, e := range notEntries() {
		for _, s := range servers {
			if got, ok := impl.ServerHear(s, e); ok || !noServer(got) {
				t.Errorf("%s: ServerHear(%v, %v) = %v, %v", what, s, e, got, ok)
			}
		}
	}
	for _, s := range servers {
		for who := 1; who <= 3; who++ {
			e := impl.Entry{Who: who, Seq: impl.LogSeq(s.Log, who) + 1, Op: makeOp(made[who%3+1][0], 1, 0, "")}
			if got, ok := impl.ServerHear(s, e); ok || !noServer(got) {
				t.Errorf("ServerHear(%v, %v) = %v, %v", s, e, got, ok)
			}
		}
	}
}

// A nil log and an empty one are the same.
func TestServersWithoutEntries(t *testing.T) {
	e := entryOf(1, 1, "make 11 1 0 'a'")
	for _, l := range [][]impl.Entry{nil, {}, make([]impl.Entry, 0, 50), grownLog(1, 40)[:0]} {
		for _, up := range []bool{true, false} {
			s := impl.Server{Log: l, Up: up}
			if !impl.ServerOk(s) {
				t.Errorf("%#v is invalid", s)
			}
			var want []impl.Entry
			if up {
				want = []impl.Entry{e}
			}
			if got, ok := impl.ServerHear(s, e); ok != up || !sameServer(got, impl.Server{Log: want, Up: up}) {
				t.Errorf("ServerHear(%#v) = %v, %v", s, got, ok)
			}
			if got, ok := impl.ServerSync(s); ok != up || !sameServer(got, impl.Server{Up: up}) {
				t.Errorf("ServerSync(%#v) = %v, %v", s, got, ok)
			}
			if got := impl.ServerFall(s, 40); !sameServer(got, impl.Server{Up: up}) {
				t.Errorf("ServerFall(%#v, 40) = %v", s, got)
			}
			if got := impl.ServerNews(s, 0); len(got) != 0 {
				t.Errorf("ServerNews(%#v, 0) = %v", s, got)
			}
		}
	}
}

func TestServersAreNotModified(t *testing.T) {
	servers := []impl.Server{impl.ServerNew(), {}}
	for _, l := range [][]impl.Entry{logOf("1 1 make 11 1 0 'a'"), grownLog(4, 12), grownLog(4, 39), grownLog(4, 40), lonelyLog(2, 40)} {
		servers = append(servers, serverOf(l, 0, true), serverOf(l, len(l)/2, true), serverOf(l, len(l), true), serverOf(l, len(l)/2, false))
	}
	for _, s := range notServers() {
		servers = append(servers, s)
	}
	bad := notEntries()
	for _, s := range servers {
		untouchedServer(t, s, func(s impl.Server) {
			impl.ServerOk(s)
			impl.ServerSync(s)
			for n := -1; n <= 42; n++ {
				impl.ServerFall(s, n)
				impl.ServerNews(s, n)
			}
			for _, e := range append(slices.Clone(s.Log), largeEntries(s.Log)...) {
				impl.ServerHear(s, e)
			}
			for _, e := range bad {
				impl.ServerHear(s, e)
			}
		})
	}
}

// serverCalls are all calls that give entries, by name.
func serverCalls(e impl.Entry) map[string]func(s impl.Server) []impl.Entry {
	return map[string]func(s impl.Server) []impl.Entry{
		"ServerHear":           func(s impl.Server) []impl.Entry { s, _ = impl.ServerHear(s, e); return s.Log },
		"ServerSync":           func(s impl.Server) []impl.Entry { s, _ = impl.ServerSync(s); return s.Log },
		"ServerFall of 0":      func(s impl.Server) []impl.Entry { return impl.ServerFall(s, 0).Log },
		"ServerFall of 1":      func(s impl.Server) []impl.Entry { return impl.ServerFall(s, 1).Log },
		"ServerFall of 40":     func(s impl.Server) []impl.Entry { return impl.ServerFall(s, 40).Log },
		"ServerNews from 0":    func(s impl.Server) []impl.Entry { return impl.ServerNews(s, 0) },
		"ServerNews from 1":    func(s impl.Server) []impl.Entry { return impl.ServerNews(s, 1) },
		"ServerNews from Safe": func(s impl.Server) []impl.Entry { return impl.ServerNews(s, s.Safe) },
	}
}

// What comes of a server is new memory, up to its capacity, also if nothing changed.
func TestServersGiveNewMemory(t *testing.T) {
	next := entryOf(3, 1, "text 11 'a'")
	for _, l := range [][]impl.Entry{nil, logOf("1 1 make 11 1 0 'a'", "2 1 text 11 'b'"), lonelyLog(1, 12), lonelyLog(2, 39), lonelyLog(2, 40)} {
		for _, s := range serversOf(l) {
			// The entry is the next one, one that is there, and one that is invalid.
			for _, e := range append(slices.Clone(l[:min(1, len(l))]), next, impl.Entry{}) {
				for what, call := range serverCalls(e) {
					// The spare capacity is where an entry would come that is added without a copy.
					arg := impl.Server{Log: append(make([]impl.Entry, 0, 64), l...), Safe: s.Safe, Up: s.Up}
					first := call(arg)
					kept := slices.Clone(first)
					spoil(call(arg))
					if !slices.Equal(arg.Log, l) || !slices.Equal(first, kept) {
						t.Fatalf("%s: after writing to one result the server is %v and the other result %v", what, arg, first)
					}
					if again := call(arg); !slices.Equal(again, kept) {
						t.Fatalf("%s: after writing to one result another one is %v", what, again)
					}
					spoil(arg.Log)
					if !slices.Equal(first, kept) {
						t.Fatalf("%s: after writing to the server the result is %v", what, first)
					}
				}
			}
		}
	}
}

// P54: a server that fell does not keep what it lost in the capacity behind its log.
func TestFallenServersKeepNothing(t *testing.T) {
	for _, s := range largeServers() {
		for _, left := range []int{0, 1, 7} {
			fallen := impl.ServerFall(s, left)
			behind := fallen.Log[len(fallen.Log):cap(fallen.Log)]
			for _, e := range s.Log[len(fallen.Log):] {
				if slices.Contains(behind, e) {
					t.Fatalf("behind the log of ServerFall(%v, %d) there is %v", s, left, e)
				}
			}
		}
	}
}

// Two servers that come of one do not write over each other.
func TestServersGrowApart(t *testing.T) {
	s := impl.ServerNew()
	for seq := 1; seq <= 40; seq++ {
		one, two := entryOf(1, seq, "text 11 'a'"), entryOf(1, seq, "text 11 'b'")
		first, ok := impl.ServerHear(s, one)
		second, okToo := impl.ServerHear(s, two)
		if !ok || !okToo || !slices.Equal(first.Log, append(slices.Clone(s.Log), one)) || !slices.Equal(second.Log, append(slices.Clone(s.Log), two)) {
			t.Fatalf("two servers out of %v are %v and %v", s, first, second)
		}
		if seq%5 == 0 {
			first, _ = impl.ServerSync(first)
		}
		s = first
	}
}

// twoLists is a server as two lists, of what is durable and of what is not.
type twoLists struct {
	durable, loose []impl.Entry
	up             bool
}

func (m *twoLists) all() []impl.Entry {
	return append(slices.Clone(m.durable), m.loose...)
}

// hear says whether the entry is the next one.
func (m *twoLists) hear(e impl.Entry) bool {
	_, n := wantAdd(m.all(), e)
	if !m.up || n != 1 {
		return false
	}
	m.loose = append(m.loose, e)
	return true
}

func (m *twoLists) sync() bool {
	if m.up {
		m.durable, m.loose = m.all(), nil
	}
	return m.up
}

// P52 to P60: servers that hear, sync, fall, stop and run in any order are as two lists would have it.
func TestServersOverTime(t *testing.T) {
	t.Parallel()
	for seed := range int64(300) {
		random := rand.New(rand.NewSource(seed))
		s, m := impl.ServerNew(), &twoLists{up: true}
		for step := range 120 {
			var got, want bool
			switch kind := random.Intn(20); {
			case kind < 12:
				entries := largeEntries(m.all())
				e := entries[random.Intn(len(entries))]
				s, got = impl.ServerHear(s, e)
				want = m.hear(e)
			case kind < 15:
				s, got = impl.ServerSync(s)
				want = m.sync()
			case kind < 17:
				left := random.Intn(41)
				if random.Intn(2) == 0 {
					left = random.Intn(4)
				}
				s = impl.ServerFall(s, left)
				m.loose = m.loose[:min(left, len(m.loose))]
			case kind < 18:
				s.Up, m.up = false, false
			default:
				s.Up, m.up = true, true
			}
			if got != want || !sameServer(s, impl.Server{Log: m.all(), Safe: len(m.durable), Up: m.up}) {
				t.Fatalf("seed %d, step %d: %v, %v, want %v, %v", seed, step, s, got, m, want)
			}
			news := impl.ServerNews(s, 0)
			if m.up && !slices.Equal(news, m.durable) || !m.up && len(news) != 0 {
				t.Fatalf("seed %d, step %d: the news are %v, want %v", seed, step, news, m)
			}
		}
	}
}
