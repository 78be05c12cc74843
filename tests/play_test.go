package tests

import (
	"math/rand"
	"slices"
	"sync"
	"testing"

	"loop.example/plashet/impl"
)

// tempers are kinds of events, each as often as it is to come among the events of a run.
func tempers() [][]int {
	return [][]int{
		{1, 1, 1, 1, 2, 2, 2, 3, 3, 4, 4, 4, 5, 6, 7, 7, 8, 8, 8, 8, 8, 8, 8, 9, 10}, // of all kinds
		{1, 1, 1, 2, 2, 3, 3, 4, 4, 4, 8, 8, 8, 8, 8, 8, 8, 8},                       // nothing goes wrong
		{1, 1, 1, 1, 1, 1, 1, 1, 1, 1, 1, 1, 1, 1, 1, 1, 1, 1, 1, 2, 3, 4, 8, 8},     // mostly changes
		{1}, // only changes
		{1, 1, 2, 2, 3, 4, 4, 5, 5, 5, 8, 8, 8, 8, 8, 8, 8},          // falls
		{1, 1, 2, 2, 2, 3, 4, 4, 4, 8, 8, 8, 8, 10, 10},              // the same again
		{1, 1, 2, 2, 2, 2, 3, 3, 4, 4, 4, 8, 8, 8, 8, 8, 9, 9, 9},    // losses
		{1, 1, 2, 2, 2, 3, 3, 4, 4, 4, 6, 6, 7, 7, 8, 8, 8, 8, 8, 8}, // a server that is often down
	}
}

// anyEvent is one of a kind and a client that is mostly possible in a run.
func anyEvent(random *rand.Rand, w impl.World, kind, who int) impl.Event {
	e := impl.Event{Kind: kind, Who: who}
	c := w.Clients[who-1]
	switch kind {
	case impl.EvDo:
		e.Op = anyChange(random, who)
		if e.Op.Kind == impl.OpMake && c.Made < 6 && random.Intn(8) > 0 {
			e.Op.Id = made[who][c.Made]
		}
	case impl.EvNews:
		e.N = []int{c.Seen, c.Seen, 0, random.Intn(w.Server.Safe + 2)}[random.Intn(4)]
	case impl.EvFall:
		e.N = random.Intn(4)
	case impl.EvBring, impl.EvLose, impl.EvTwice:
		e.N = random.Intn(len(w.Nets) + 1)
		if random.Intn(2) == 0 {
			e.N = 0
		}
	}
	return e
}

// anyPlay is a number of events out of some kinds, made up along a run as the document has it.
func anyPlay(random *rand.Rand, kinds []int, length int) []impl.Event {
	w := newWorld()
	var events []impl.Event
	for len(events) < length {
		e := anyEvent(random, w, kinds[random.Intn(len(kinds))], 1+random.Intn(3))
		events = append(events, e)
		w = wantEvent(w, e)
	}
	return events
}

// anyRounds are 50 events in rounds, of which each brings some changes to the server and to some clients, if nothing comes in between.
func anyRounds(random *rand.Rand) []impl.Event {
	w := newWorld()
	var events []impl.Event
	add := func(e impl.Event) {
		if random.Intn(20) == 0 {
			e = anyEvent(random, w, 1+random.Intn(10), 1+random.Intn(3))
		}
		if len(events) < 50 {
			events = append(events, e)
			w = wantEvent(w, e)
		}
	}
	for len(events) < 50 {
		who := 1 + random.Intn(3)
		for range 1 + random.Intn(3) {
			add(anyEvent(random, w, impl.EvDo, who))
		}
		add(of(impl.EvSend, who))
		for range w.Nets {
			add(numbered(impl.EvBring, 0))
		}
		add(of([]int{impl.EvSync, impl.EvSync, impl.EvRise}[random.Intn(3)], 0))
		for range random.Intn(3) {
			add(news(who, w.Clients[who-1].Seen))
			add(numbered(impl.EvBring, 0))
			who = 1 + who%3
		}
	}
	return events
}

// playsOf are some of each temper, of any length up to 50, and often of 50.
func playsOf(tempers [][]int, each int) [][]impl.Event {
	var all [][]impl.Event
	for i, kinds := range tempers {
		for seed := range each {
			random := rand.New(rand.NewSource(int64(1000*i + seed)))
			length := 50
			if seed%3 == 0 {
				length = random.Intn(51)
			}
			all = append(all, anyPlay(random, kinds, length))
		}
	}
	return all
}

// somePlays are of all tempers, and in rounds.
var somePlays = sync.OnceValue(func() [][]impl.Event {
	all := playsOf(tempers(), 50)
	for seed := range int64(200) {
		all = append(all, anyRounds(rand.New(rand.NewSource(seed))))
	}
	return all
})

// eachPlay goes over the runs that come of events.
func eachPlay(t *testing.T, call func(events []impl.Event, w impl.World)) {
	t.Helper()
	for _, events := range somePlays() {
		w, ok := impl.WorldPlay(events)
		if !ok || !impl.WorldOk(w) {
			t.Fatalf("WorldPlay(%v) = %v, %v", events, w, ok)
		}
		call(events, w)
	}
}

// ownCount is how many own entries all clients have together.
func ownCount(w impl.World) int {
	n := 0
	for who := 1; who <= 3; who++ {
		n += len(ownOf(w, who))
	}
	return n
}

// eachCalm goes over runs whose entries all have space, before and after a quiet period.
func eachCalm(t *testing.T, call func(w, calm impl.World)) {
	t.Helper()
	roomy, full := 0, 0
	try := func(w impl.World) {
		if ownCount(w) > 40 {
			full++
			return
		}
		roomy++
		call(w, impl.WorldCalm(w))
	}
	eachPlay(t, func(_ []impl.Event, w impl.World) { try(w) })
	for _, w := range builtWorlds() {
		try(w)
	}
	if roomy < 200 || full < 20 {
		t.Errorf("there is space in %d runs and none in %d", roomy, full)
	}
}

// withSpace is a run with space for a message.
func withSpace(w impl.World) impl.World {
	if len(w.Nets) == 12 {
		return impl.WorldDo(w, numbered(impl.EvLose, 11))
	}
	return w
}

// The sentences of the document, one after the other, in one run.
func TestPlayWrittenOut(t *testing.T) {
	o := func(text string) impl.Op { return entryOf(1, 1, text).Op }
	w := impl.WorldNew()
	for i, x := range []struct {
		e      impl.Event
		server string
		nets   int
		shown  [3]string
	}{
		{doing(1, o("make 11 1 0 'a'")), "0/0", 0, [3]string{"1\n.11 a\n2\n3\n", "1\n2\n3\n", "1\n2\n3\n"}},
		{doing(1, o("make 12 11 0 'b'")), "0/0", 0, [3]string{"1\n.11 a\n..12 b\n2\n3\n", "1\n2\n3\n", "1\n2\n3\n"}},
		{of(impl.EvSend, 1), "0/0", 2, [3]string{"1\n.11 a\n..12 b\n2\n3\n", "1\n2\n3\n", "1\n2\n3\n"}},
		{numbered(impl.EvBring, 0), "1/0", 1, [3]string{"1\n.11 a\n..12 b\n2\n3\n", "1\n2\n3\n", "1\n2\n3\n"}},
		{news(2, 0), "1/0", 2, [3]string{"1\n.11 a\n..12 b\n2\n3\n", "1\n2\n3\n", "1\n2\n3\n"}}, // nothing is durable
		{numbered(impl.EvBring, 1), "1/0", 1, [3]string{"1\n.11 a\n..12 b\n2\n3\n", "1\n2\n3\n", "1\n2\n3\n"}},
		{of(impl.EvSync, 0), "1/1", 1, [3]string{"1\n.11 a\n..12 b\n2\n3\n", "1\n2\n3\n", "1\n2\n3\n"}},
		{numbered(impl.EvBring, 0), "2/1", 0, [3]string{"1\n.11 a\n..12 b\n2\n3\n", "1\n2\n3\n", "1\n2\n3\n"}},
		{news(2, 0), "2/1", 1, [3]string{"1\n.11 a\n..12 b\n2\n3\n", "1\n2\n3\n", "1\n2\n3\n"}},
		{numbered(impl.EvTwice, 0), "2/1", 2, [3]string{"1\n.11 a\n..12 b\n2\n3\n", "1\n2\n3\n", "1\n2\n3\n"}},
		{numbered(impl.EvBring, 0), "2/1", 1, [3]string{"1\n.11 a\n..12 b\n2\n3\n", "1\n.11 a\n2\n3\n", "1\n2\n3\n"}},
		{numbered(impl.EvBring, 0), "2/1", 0, [3]string{"1\n.11 a\n..12 b\n2\n3\n", "1\n.11 a\n2\n3\n", "1\n2\n3\n"}},
		{numbered(impl.EvFall, 0), "1/1", 0, [3]string{"1\n.11 a\n..12 b\n2\n3\n", "1\n.11 a\n2\n3\n", "1\n2\n3\n"}},
		{of(impl.EvDown, 0), "1/1", 0, [3]string{"1\n.11 a\n..12 b\n2\n3\n", "1\n.11 a\n2\n3\n", "1\n2\n3\n"}},
		{of(impl.EvSend, 1), "1/1", 2, [3]string{"1\n.11 a\n..12 b\n2\n3\n", "1\n.11 a\n2\n3\n", "1\n2\n3\n"}}, // the first one again
		{numbered(impl.EvBring, 1), "1/1", 1, [3]string{"1\n.11 a\n..12 b\n2\n3\n", "1\n.11 a\n2\n3\n", "1\n2\n3\n"}},
		{of(impl.EvRise, 0), "1/1", 1, [3]string{"1\n.11 a\n..12 b\n2\n3\n", "1\n.11 a\n2\n3\n", "1\n2\n3\n"}},
		{of(impl.EvSend, 1), "1/1", 3, [3]string{"1\n.11 a\n..12 b\n2\n3\n", "1\n.11 a\n2\n3\n", "1\n2\n3\n"}},
		{numbered(impl.EvLose, 1), "1/1", 2, [3]string{"1\n.11 a\n..12 b\n2\n3\n", "1\n.11 a\n2\n3\n", "1\n2\n3\n"}},
		{numbered(impl.EvBring, 1), "2/1", 1, [3]string{"1\n.11 a\n..12 b\n2\n3\n", "1\n.11 a\n2\n3\n", "1\n2\n3\n"}}, // what the fall took
		{doing(2, o("move 11 2 0")), "2/1", 1, [3]string{"1\n.11 a\n..12 b\n2\n3\n", "1\n2\n.11 a\n3\n", "1\n2\n3\n"}},
		{of(impl.EvSync, 0), "2/2", 1, [3]string{"1\n.11 a\n..12 b\n2\n3\n", "1\n2\n.11 a\n3\n", "1\n2\n3\n"}},
		{news(2, 2), "2/2", 2, [3]string{"1\n.11 a\n..12 b\n2\n3\n", "1\n2\n.11 a\n3\n", "1\n2\n3\n"}},
		{numbered(impl.EvBring, 1), "2/2", 1, [3]string{"1\n.11 a\n..12 b\n2\n3\n", "1\n2\n.11 a\n3\n", "1\n2\n3\n"}}, // after a gap
		{news(2, 1), "2/2", 2, [3]string{"1\n.11 a\n..12 b\n2\n3\n", "1\n2\n.11 a\n3\n", "1\n2\n3\n"}},
		{numbered(impl.EvBring, 1), "2/2", 1, [3]string{"1\n.11 a\n..12 b\n2\n3\n", "1\n2\n.11 a\n..12 b\n3\n", "1\n2\n3\n"}},
	} {
		w = impl.WorldDo(w, x.e)
		server := string(rune('0'+len(w.Server.Log))) + "/" + string(rune('0'+w.Server.Safe))
		var shown [3]string
		for i, c := range w.Clients {
			shown[i] = impl.TreeText(impl.ClientShow(c))
		}
		if server != x.server || len(w.Nets) != x.nets || shown != x.shown {
			t.Fatalf("event %d, %v: the server is %s, %d are in transit, and there is shown %q", i, x.e, server, len(w.Nets), shown)
		}
	}
	calm := impl.WorldCalm(w)
	for _, c := range calm.Clients {
		if got := impl.TreeText(impl.ClientShow(c)); got != "1\n2\n.11 a\n..12 b\n3\n" || c.Seen != 3 || len(c.Wait) != 0 {
			t.Errorf("in the end client %v shows %q", c, got)
		}
	}
	if len(calm.Nets) != 0 || calm.Server.Safe != 3 || !slices.Equal(calm.Server.Log, logOf("1 1 make 11 1 0 'a'", "1 2 make 12 11 0 'b'", "2 1 move 11 2 0")) {
		t.Errorf("in the end there is %v", calm)
	}
}

// P76: WorldPlay equals WorldDo of each event, from WorldNew on, and what the document says of each.
func TestPlayIsDoOfEach(t *testing.T) {
	t.Parallel()
	for i, events := range somePlays() {
		want, model := impl.WorldNew(), newWorld()
		for n := range len(events) + 1 {
			if i%5 == 0 || n == len(events) || n < 2 {
				got, ok := impl.WorldPlay(events[:n])
				if !ok || !sameWorld(got, want) || !sameWorld(got, model) {
					t.Fatalf("WorldPlay(%v) = %v, %v, want %v or %v", events[:n], got, ok, want, model)
				}
			}
			if n < len(events) {
				want, model = impl.WorldDo(want, events[n]), wantEvent(model, events[n])
			}
		}
	}
}

// P76: no event, 50 events, and more.
func TestPlayUpToTheLimit(t *testing.T) {
	for _, events := range [][]impl.Event{nil, {}, make([]impl.Event, 0, 60)} {
		if w, ok := impl.WorldPlay(events); !ok || !sameWorld(w, newWorld()) {
			t.Errorf("WorldPlay(%#v) = %v, %v", events, w, ok)
		}
	}
	for _, e := range []impl.Event{{}, doing(1, textOp(11, "a")), of(impl.EvSync, 0), of(impl.EvDown, 0), numbered(99, 0)} {
		want := newWorld()
		var events []impl.Event
		for n := 1; n <= 120; n++ {
			events = append(events, e)
			want = wantEvent(want, e)
			got, ok := impl.WorldPlay(events)
			if n <= 50 && (!ok || !sameWorld(got, want)) || n > 50 && (ok || !noWorld(got)) {
				t.Fatalf("WorldPlay of %d times %v = %v, %v", n, e, got, ok)
			}
		}
	}
}

// P76: arguments are not modified, and each result is new.
func TestPlaysAreNotModified(t *testing.T) {
	mark := impl.Event{Kind: -7, Who: -7, N: -7, Op: textOp(-7, "mark")}
	for _, events := range somePlays()[:40] {
		whole := append(slices.Clone(events), mark, mark)
		kept := slices.Clone(whole)
		first, _ := impl.WorldPlay(whole[:len(events)])
		want := copyWorld(first)
		second, _ := impl.WorldPlay(whole[:len(events)])
		spoilWorld(second)
		third, _ := impl.WorldPlay(whole[:len(events)])
		if !slices.Equal(whole, kept) || !sameWorld(first, want) || !sameWorld(third, want) {
			t.Fatalf("after WorldPlay there are %v, and after writing to one result the others are %v and %v", whole, first, third)
		}
		checkApart(t, "WorldPlay", &third)
	}
}

// P75, P93, P94: along runs, step by step.
func TestPlaysStepByStep(t *testing.T) {
	t.Parallel()
	for i, events := range somePlays() {
		if i%2 == 0 {
			continue
		}
		w := impl.WorldNew()
		for _, e := range events {
			next := impl.WorldDo(w, e)
			if !isWorld(next) {
				t.Fatalf("WorldDo(%v, %v) = %v", w, e, next)
			}
			checkKept(t, w, next)
			w = next
		}
	}
}

// P77: the Base of each client results from a prefix of the durable entries, and no crash changes it, or what is shown.
func TestSafeFirst(t *testing.T) {
	t.Parallel()
	loose := 0
	eachPlay(t, func(events []impl.Event, w impl.World) {
		loose += len(w.Server.Log) - w.Server.Safe
		for _, left := range []int{0, 1, 2, 40} {
			fallen := after(w, of(impl.EvDown, 0), numbered(impl.EvFall, left), of(impl.EvRise, 0))
			if !sameClients(fallen.Clients, w.Clients) {
				t.Fatalf("after a crash of %v there are the clients %v", w, fallen.Clients)
			}
			for i, c := range fallen.Clients {
				if c.Seen > fallen.Server.Safe || !slices.Equal(c.Base, impl.LogTree(durable(fallen.Server)[:c.Seen])) {
					t.Fatalf("after %v and a crash client %v is ahead of %v", events, c, fallen.Server)
				}
				if !slices.Equal(impl.ClientShow(c), wantShow(w.Clients[i])) {
					t.Fatalf("after %v and a crash client %v shows something else", events, c)
				}
			}
		}
	})
	if loose < 100 {
		t.Errorf("only %d entries were not durable", loose)
	}
}

// P78: the own entries of each client are those that it has applied, followed by the waiting ones, each once and in the order in which it made them; those of the server are among them.
func TestOwnEntriesOnce(t *testing.T) {
	t.Parallel()
	for _, events := range somePlays() {
		w, _ := impl.WorldPlay(events)
		// What each client made is known without the run: what it did and could do.
		done := map[int]impl.Client{1: newClient(1), 2: newClient(2), 3: newClient(3)}
		for _, e := range events {
			if e.Kind == impl.EvDo {
				done[e.Who], _ = wantClientDo(done[e.Who], e.Op)
			}
		}
		for who := 1; who <= 3; who++ {
			own := done[who].Wait
			c := w.Clients[who-1]
			if got := slices.Concat(entriesBy(durable(w.Server)[:c.Seen], who), c.Wait); !slices.Equal(got, own) || c.Made != done[who].Made {
				t.Fatalf("after %v client %d has made %v, want %v", events, who, got, own)
			}
			if there := entriesBy(w.Server.Log, who); !isPart(own, 0, there) || len(there) < c.Done {
				t.Fatalf("after %v the server has %v of client %d", events, there, who)
			}
		}
	}
}

// P79: two clients with equally many applied entries have the same Base; if nothing waits, they show the same. Runs are looked at after each event.
func TestSameBase(t *testing.T) {
	t.Parallel()
	pairs, quiet := 0, 0
	for i, events := range somePlays() {
		if i%3 != 0 {
			continue
		}
		w := impl.WorldNew()
		for _, e := range events {
			w = impl.WorldDo(w, e)
			for j, a := range w.Clients {
				for _, b := range w.Clients[j+1:] {
					if a.Seen != b.Seen || a.Seen == 0 {
						continue
					}
					pairs++
					if !slices.Equal(a.Base, b.Base) {
						t.Fatalf("among %v clients %v and %v have another Base", events, a, b)
					}
					if len(a.Wait)+len(b.Wait) > 0 {
						continue
					}
					quiet++
					if !slices.Equal(impl.ClientShow(a), impl.ClientShow(b)) {
						t.Fatalf("among %v clients %v and %v show something else", events, a, b)
					}
				}
			}
		}
	}
	if pairs < 1000 || quiet < 100 {
		t.Errorf("only %d pairs of clients have as many entries, and nothing waits at %d", pairs, quiet)
	}
}

// P80 to P83: WorldCalm is as the document has it, also where not all entries have space; another one changes nothing.
func TestCalmAsStated(t *testing.T) {
	t.Parallel()
	check := func(w impl.World) {
		calm := impl.WorldCalm(w)
		if want := wantCalm(w); !sameWorld(calm, want) || !impl.WorldOk(calm) {
			t.Fatalf("WorldCalm(%v) = %v, want %v", w, calm, want)
		}
		if again := impl.WorldCalm(calm); !sameWorld(again, calm) {
			t.Fatalf("WorldCalm(%v) = %v", calm, again)
		}
	}
	for _, w := range someWorlds() {
		check(w)
	}
	eachPlay(t, func(_ []impl.Event, w impl.World) { check(w) })
}

// P80: nothing waits, all clients have applied all entries and show LogTree of the server, and everything is durable.
func TestComesToIt(t *testing.T) {
	t.Parallel()
	eachCalm(t, func(w, calm impl.World) {
		s := calm.Server
		if s.Safe != len(s.Log) || !s.Up || len(calm.Nets) != 0 {
			t.Fatalf("WorldCalm(%v) = %v", w, calm)
		}
		tree := impl.LogTree(s.Log)
		for _, c := range calm.Clients {
			if len(c.Wait) != 0 || c.Seen != len(s.Log) || !slices.Equal(c.Base, tree) || !slices.Equal(impl.ClientShow(c), tree) {
				t.Fatalf("WorldCalm(%v) = %v", w, calm)
			}
		}
	})
}

// P82: each entry that waited, and each other one, is in the log of the server exactly once.
func TestWaitingEntriesOnce(t *testing.T) {
	t.Parallel()
	eachCalm(t, func(w, calm impl.World) {
		count := map[impl.Entry]int{}
		for _, e := range calm.Server.Log {
			count[e]++
		}
		for who := 1; who <= 3; who++ {
			for _, e := range ownOf(w, who) {
				if count[e] != 1 {
					t.Fatalf("WorldCalm(%v) has %v %d times", w, e, count[e])
				}
			}
		}
		if len(calm.Server.Log) != ownCount(w) {
			t.Fatalf("WorldCalm(%v) = %v", w, calm)
		}
	})
}

// P83: every row that any client showed is in the common outline.
func TestNoRowThatWasShownIsLost(t *testing.T) {
	t.Parallel()
	rows := 0
	for i, events := range somePlays() {
		if i%4 != 0 {
			continue
		}
		shown := map[int]bool{}
		w := impl.WorldNew()
		for _, e := range events {
			w = impl.WorldDo(w, e)
			for _, c := range w.Clients {
				for _, id := range ids(impl.ClientShow(c)) {
					shown[id] = true
				}
			}
		}
		if ownCount(w) > 40 {
			continue
		}
		common := impl.LogTree(impl.WorldCalm(w).Server.Log)
		for id := range shown {
			rows++
			if place(common, id) < 0 {
				t.Fatalf("after %v there is %v, without row %d", events, common, id)
			}
		}
	}
	if rows < 300 {
		t.Errorf("only %d rows were shown", rows)
	}
	eachCalm(t, func(w, calm impl.World) {
		for _, c := range w.Clients {
			for _, id := range ids(impl.ClientShow(c)) {
				if place(impl.ClientShow(calm.Clients[0]), id) < 0 {
					t.Fatalf("WorldCalm(%v) = %v has lost row %d", w, calm, id)
				}
			}
		}
	})
}

// P84: after a crash that loses all entries that are not durable, and WorldCalm, all changes of all clients are applied, if they have space.
func TestCalmAfterACrash(t *testing.T) {
	t.Parallel()
	taken := 0
	eachCalm(t, func(w, _ impl.World) {
		fallen := impl.WorldDo(w, numbered(impl.EvFall, 0))
		taken += len(w.Server.Log) - len(fallen.Server.Log)
		for _, before := range []impl.World{fallen, impl.WorldDo(fallen, of(impl.EvDown, 0))} {
			calm := impl.WorldCalm(before)
			for who := 1; who <= 3; who++ {
				own := ownOf(w, who)
				if !slices.Equal(entriesBy(calm.Server.Log, who), own) || calm.Clients[who-1].Done != len(own) {
					t.Fatalf("after a crash of %v there is %v", w, calm)
				}
			}
			if calm.Server.Safe != ownCount(w) || !isPart(calm.Server.Log, 0, durable(w.Server)) {
				t.Fatalf("after a crash of %v there is %v", w, calm)
			}
		}
	})
	if taken < 100 {
		t.Errorf("crashes took only %d entries", taken)
	}
}

// P81: what is quiet stays so: nothing to do, a server that is not running, entries that a crash took, and more than there is space for.
func TestCalmWrittenOut(t *testing.T) {
	if calm := impl.WorldCalm(impl.WorldNew()); !sameWorld(calm, newWorld()) {
		t.Errorf("a new run becomes %v", calm)
	}
	down := newWorld()
	down.Server.Up = false
	if calm := impl.WorldCalm(down); !sameWorld(calm, newWorld()) {
		t.Errorf("a run whose server is not running becomes %v", calm)
	}
	sent := after(impl.WorldNew(), doing(3, makeOp(31, 1, 0, "d")), doing(1, makeOp(11, 31, 0, "a")), of(impl.EvSend, 3), numbered(impl.EvBring, 0), of(impl.EvSend, 1))
	// Client 3 comes before client 1 if the server has it already, and behind it if a crash took it.
	for what, x := range map[string]struct {
		w    impl.World
		want []impl.Entry
		tree string
	}{
		"heard":                         {sent, logOf("3 1 make 31 1 0 'd'", "1 1 make 11 31 0 'a'"), "1\n.31 d\n..11 a\n2\n3\n"},
		"taken":                         {after(sent, numbered(impl.EvFall, 0)), logOf("1 1 make 11 31 0 'a'", "3 1 make 31 1 0 'd'"), "1\n.31 d\n2\n3\n.11 a\n"},
		"taken while it is not running": {after(sent, of(impl.EvDown, 0), numbered(impl.EvFall, 0)), logOf("1 1 make 11 31 0 'a'", "3 1 make 31 1 0 'd'"), "1\n.31 d\n2\n3\n.11 a\n"},
		"durable":                       {after(sent, of(impl.EvSync, 0), numbered(impl.EvFall, 0)), logOf("3 1 make 31 1 0 'd'", "1 1 make 11 31 0 'a'"), "1\n.31 d\n..11 a\n2\n3\n"},
	} {
		calm := impl.WorldCalm(x.w)
		if !slices.Equal(calm.Server.Log, x.want) || calm.Server.Safe != 2 || !calm.Server.Up || len(calm.Nets) != 0 {
			t.Errorf("%s: there is %v", what, calm)
		}
		for _, c := range calm.Clients {
			if got := impl.TreeText(impl.ClientShow(c)); got != x.tree || len(c.Wait) != 0 || c.Seen != 2 {
				t.Errorf("%s: client %v shows %q", what, c, got)
			}
		}
	}
}

// P80, P81: with more waiting entries than there is space for, those of the first clients are heard, and the others wait and are shown.
func TestCalmWithoutSpace(t *testing.T) {
	for _, counts := range [][3]int{{15, 15, 15}, {40, 1, 0}, {39, 1, 1}, {0, 40, 40}, {40, 40, 40}, {13, 13, 14}, {1, 0, 40}} {
		w := impl.WorldNew()
		for i, count := range counts {
			for range count {
				w = impl.WorldDo(w, doing(i+1, textOp(11, "a")))
			}
			w = impl.WorldDo(w, doing(i+1, makeOp(made[i+1][0], 1, 0, "b")))
		}
		calm := impl.WorldCalm(w)
		left := 40
		for i, c := range calm.Clients {
			own := ownOf(w, i+1)
			heard := min(left, len(own))
			left -= heard
			if c.Done != heard || !slices.Equal(c.Wait, own[heard:]) || !slices.Equal(entriesBy(calm.Server.Log, i+1), own[:heard]) {
				t.Errorf("with %v, client %d is %v", counts, i+1, c)
			}
			if !slices.Equal(ids(impl.ClientShow(c))[:1], []int{1}) || c.Made > 0 && place(impl.ClientShow(c), made[i+1][0]) < 0 {
				t.Errorf("with %v, client %d shows %v", counts, i+1, impl.ClientShow(c))
			}
		}
		if len(calm.Server.Log) != 40-left || calm.Server.Safe != 40-left || !sameWorld(impl.WorldCalm(calm), calm) {
			t.Errorf("with %v there is %v", counts, calm)
		}
	}
}

// P85: delivering the first message twice leaves the server and all clients as delivering it once.
func TestFirstMessageTwice(t *testing.T) {
	t.Parallel()
	seen := map[bool]int{}
	check := func(w impl.World) {
		if len(w.Nets) == 0 {
			return
		}
		w = withSpace(w)
		once := impl.WorldDo(w, numbered(impl.EvBring, 0))
		copied := impl.WorldDo(w, numbered(impl.EvTwice, 0))
		if len(copied.Nets) != len(w.Nets)+1 {
			t.Fatalf("of %v there come %v", w.Nets, copied.Nets)
		}
		twice := after(copied, numbered(impl.EvBring, 0), numbered(impl.EvBring, len(w.Nets)-1))
		if !sameServer(twice.Server, once.Server) || !sameClients(twice.Clients, once.Clients) || !sameLetters(twice.Nets, once.Nets) {
			t.Fatalf("the first message of %v once gives %v, and twice %v", w, once, twice)
		}
		seen[sameServer(once.Server, w.Server) && sameClients(once.Clients, w.Clients)]++
	}
	eachPlay(t, func(_ []impl.Event, w impl.World) { check(w) })
	for _, w := range someWorlds() {
		check(w)
	}
	if seen[true] < 50 || seen[false] < 50 {
		t.Errorf("the first message changes something %d times and nothing %d times", seen[false], seen[true])
	}
}

// P86: delivering the messages of one client in reverse order, again and again, gives its entries in the order in which it made them.
func TestMessagesInReverseOrder(t *testing.T) {
	t.Parallel()
	check := func(w impl.World, who int) {
		w = impl.WorldDo(w, of(impl.EvRise, 0))
		own := ownOf(w, who)
		if missing := len(own) - len(entriesBy(w.Server.Log, who)); missing > 40-len(w.Server.Log) || missing > 12 {
			return
		}
		for range own {
			for len(w.Nets) > 0 {
				w = impl.WorldDo(w, numbered(impl.EvLose, 0))
			}
			w = impl.WorldDo(w, of(impl.EvSend, who))
			for n := len(w.Nets) - 1; n >= 0; n-- {
				w = impl.WorldDo(w, numbered(impl.EvBring, n))
			}
			w = impl.WorldDo(w, of(impl.EvSync, 0))
			w = after(w, news(who, w.Clients[who-1].Seen), numbered(impl.EvBring, 0))
		}
		if got := entriesBy(w.Server.Log, who); !slices.Equal(got, own) || len(w.Clients[who-1].Wait) != 0 {
			t.Fatalf("client %d has made %v, and the server has %v", who, own, got)
		}
	}
	eachPlay(t, func(events []impl.Event, w impl.World) { check(w, 1+len(events)%3) })
	for who := 1; who <= 3; who++ {
		for count := range 13 {
			w := impl.WorldNew()
			for i := range count {
				w = impl.WorldDo(w, doing(who, textOp(11, goodTexts[i%len(goodTexts)])))
			}
			check(w, who)
			once := after(w, of(impl.EvSend, who))
			for n := count - 1; n >= 0; n-- {
				once = impl.WorldDo(once, numbered(impl.EvBring, n))
			}
			if want := w.Clients[who-1].Wait[:min(1, count)]; !slices.Equal(once.Server.Log, want) {
				t.Errorf("in reverse order, %d messages give %v", count, once.Server.Log)
			}
		}
	}
}

// P85, P86: messages delivered twice, turned around, and after a crash, with what the server has after each.
func TestMessagesWrittenOut(t *testing.T) {
	w := after(impl.WorldNew(), doing(1, textOp(11, "a")), doing(1, textOp(11, "b")), doing(1, textOp(11, "c")), of(impl.EvSend, 1))
	step := func(e impl.Event, log, safe, nets int) {
		t.Helper()
		w = impl.WorldDo(w, e)
		if len(w.Server.Log) != log || w.Server.Safe != safe || len(w.Nets) != nets || !isPart(w.Clients[0].Wait, 0, w.Server.Log) {
			t.Fatalf("after %v there is %v", e, w)
		}
	}
	step(numbered(impl.EvBring, 2), 0, 0, 2)
	step(numbered(impl.EvBring, 1), 0, 0, 1)
	step(numbered(impl.EvTwice, 0), 0, 0, 2)
	step(numbered(impl.EvTwice, 1), 0, 0, 3)
	step(numbered(impl.EvBring, 0), 1, 0, 2)
	step(numbered(impl.EvBring, 0), 1, 0, 1) // it is there
	step(of(impl.EvSend, 1), 1, 0, 4)
	step(numbered(impl.EvBring, 2), 2, 0, 3)
	step(of(impl.EvSync, 0), 2, 2, 3)
	step(numbered(impl.EvBring, 2), 3, 2, 2)
	step(numbered(impl.EvFall, 0), 2, 2, 2)
	step(of(impl.EvSend, 1), 2, 2, 5)
	step(numbered(impl.EvBring, 0), 2, 2, 4) // what is durable is there after the crash
	step(of(impl.EvDown, 0), 2, 2, 4)
	step(numbered(impl.EvBring, 3), 2, 2, 3) // nobody hears it
	step(of(impl.EvSync, 0), 2, 2, 3)
	step(of(impl.EvRise, 0), 2, 2, 3)
	step(of(impl.EvSend, 1), 2, 2, 6)
	step(numbered(impl.EvBring, 5), 3, 2, 5)
	step(numbered(impl.EvFall, 1), 3, 2, 5)
	step(numbered(impl.EvFall, 41), 3, 2, 5)
	step(numbered(impl.EvFall, -1), 3, 2, 5)
	for range 9 {
		w = impl.WorldDo(w, numbered(impl.EvTwice, 4))
	}
	step(numbered(impl.EvTwice, 4), 3, 2, 12)
	step(of(impl.EvSend, 1), 3, 2, 12)
	step(news(2, 0), 3, 2, 12)
	step(numbered(impl.EvLose, 11), 3, 2, 11)
	step(news(2, 0), 3, 2, 12)
	step(numbered(impl.EvBring, 11), 3, 2, 11)
	if c := w.Clients[1]; c.Seen != 2 {
		t.Errorf("client 2 is %v", c)
	}
}

// P91: without EvBring, no client applies anything, the server has no entries, and each client shows only its own rows.
func TestWithoutBring(t *testing.T) {
	t.Parallel()
	sent := 0
	left := tempers()
	for i := range left {
		left[i] = slices.DeleteFunc(left[i], func(kind int) bool { return kind == impl.EvBring })
	}
	for _, events := range playsOf(left, 25) {
		w, ok := impl.WorldPlay(events)
		if !ok || len(w.Server.Log) != 0 || w.Server.Safe != 0 {
			t.Fatalf("after %v the server is %v", events, w.Server)
		}
		sent += len(w.Nets)
		for i, c := range w.Clients {
			if c.Seen != 0 || c.Done != 0 || !slices.Equal(c.Base, impl.TreeNew()) {
				t.Fatalf("after %v client %v has applied something", events, c)
			}
			rows := ids(impl.ClientShow(c))
			if want := slices.Concat(roots, made[i+1][:c.Made]); !slices.Equal(rows, want) {
				t.Fatalf("after %v client %v shows the rows %v", events, c, rows)
			}
		}
	}
	if sent < 100 {
		t.Errorf("only %d messages are in transit", sent)
	}
}

// P92: news from the beginning on, when delivered, make a client apply all durable entries.
func TestNewsFromTheBeginning(t *testing.T) {
	t.Parallel()
	applied := 0
	eachPlay(t, func(events []impl.Event, w impl.World) {
		w = after(withSpace(w), of(impl.EvRise, 0))
		for who := 1; who <= 3; who++ {
			sent := impl.WorldDo(w, news(who, 0))
			got := impl.WorldDo(sent, numbered(impl.EvBring, len(w.Nets)))
			c := got.Clients[who-1]
			if c.Seen != w.Server.Safe || !slices.Equal(c.Base, impl.LogTree(durable(w.Server))) || !sameLetters(got.Nets, w.Nets) {
				t.Fatalf("after %v client %d has news from the beginning on and becomes %v", events, who, c)
			}
			applied += c.Seen - w.Clients[who-1].Seen
		}
	})
	if applied < 500 {
		t.Errorf("only %d entries were applied", applied)
	}
}

// P95: each message to the server has an entry that waits or is applied at its client, and each other message a part of the durable entries; there are at most 12.
func TestMessagesInTransit(t *testing.T) {
	t.Parallel()
	full, up, down := 0, 0, 0
	eachPlay(t, func(events []impl.Event, w impl.World) {
		if len(w.Nets) > 12 {
			t.Fatalf("after %v there are %v in transit", events, w.Nets)
		}
		if len(w.Nets) == 12 {
			full++
		}
		for _, l := range w.Nets {
			if l.To != 0 {
				down++
				if l.To > 3 || l.From > w.Server.Safe || !isPart(durable(w.Server), l.From, l.List) {
					t.Fatalf("after %v there is %v in transit, and the server is %v", events, l, w.Server)
				}
				continue
			}
			up++
			if l.From != 0 || len(l.List) != 1 || !slices.Contains(ownOf(w, l.List[0].Who), l.List[0]) {
				t.Fatalf("after %v there is %v in transit, and the clients are %v", events, l, w.Clients)
			}
		}
	})
	if full < 20 || up < 200 || down < 200 {
		t.Errorf("%d times 12 messages are in transit, %d to the server and %d to clients", full, up, down)
	}
}

// P96: each client shows all rows that it created, and no row that nobody created.
func TestRowsShown(t *testing.T) {
	t.Parallel()
	others := 0
	eachPlay(t, func(events []impl.Event, w impl.World) {
		created := slices.Clone(roots)
		for _, c := range w.Clients {
			created = append(created, made[c.Who][:c.Made]...)
		}
		for _, c := range w.Clients {
			shown := ids(impl.ClientShow(c))
			for _, id := range made[c.Who][:c.Made] {
				if !slices.Contains(shown, id) {
					t.Fatalf("after %v client %v does not show its row %d", events, c, id)
				}
			}
			for _, id := range shown {
				if !slices.Contains(created, id) {
					t.Fatalf("after %v client %v shows row %d that nobody created", events, c, id)
				}
			}
			others += len(shown) - c.Made - len(roots)
		}
	})
	if others < 100 {
		t.Errorf("only %d rows of others are shown", others)
	}
}

// P97: if the server is running, EvSync and delivered news to all clients make all of them apply all entries of the server.
func TestNewsToAll(t *testing.T) {
	t.Parallel()
	entries := 0
	eachPlay(t, func(events []impl.Event, w impl.World) {
		w = withSpace(w)
		if !w.Server.Up {
			return
		}
		got := impl.WorldDo(w, of(impl.EvSync, 0))
		for who := 1; who <= 3; who++ {
			got = after(got, news(who, got.Clients[who-1].Seen), numbered(impl.EvBring, len(w.Nets)))
		}
		tree := impl.LogTree(w.Server.Log)
		for _, c := range got.Clients {
			if c.Seen != len(w.Server.Log) || !slices.Equal(c.Base, tree) {
				t.Fatalf("after %v, EvSync and news to all, client %v has not applied all of %v", events, c, w.Server)
			}
		}
		entries += len(w.Server.Log)
	})
	if entries < 500 {
		t.Errorf("servers have only %d entries", entries)
	}
}
