package tests

import (
	"fmt"
	"math/rand"
	"runtime"
	"slices"
	"sync"
	"testing"

	"loop.example/plashet/impl"
)

func sameLetter(a, b impl.Letter) bool {
	return a.To == b.To && a.From == b.From && slices.Equal(a.List, b.List)
}

func sameLetters(a, b []impl.Letter) bool {
	return slices.EqualFunc(a, b, sameLetter)
}

func sameClients(a, b []impl.Client) bool {
	return slices.EqualFunc(a, b, sameClient)
}

// sameWorld says whether two runs are equal; an empty slice is equal to nil.
func sameWorld(a, b impl.World) bool {
	return sameServer(a.Server, b.Server) && sameClients(a.Clients, b.Clients) && sameLetters(a.Nets, b.Nets)
}

// noWorld says whether a run is the zero value.
func noWorld(w impl.World) bool {
	return sameWorld(w, impl.World{})
}

func copyLetter(l impl.Letter) impl.Letter {
	l.List = slices.Clone(l.List)
	return l
}

// copyWorld is an equal run with other memory.
func copyWorld(w impl.World) impl.World {
	after := impl.World{Server: serverOf(w.Server.Log, w.Server.Safe, w.Server.Up)}
	for _, c := range w.Clients {
		after.Clients = append(after.Clients, copyClient(c))
	}
	for _, l := range w.Nets {
		after.Nets = append(after.Nets, copyLetter(l))
	}
	return after
}

// newWorld is the run at its beginning, written out.
func newWorld() impl.World {
	return impl.World{Server: impl.Server{Up: true}, Clients: []impl.Client{newClient(1), newClient(2), newClient(3)}}
}

// toServer is a message with one entry.
func toServer(e impl.Entry) impl.Letter {
	return impl.Letter{List: []impl.Entry{e}}
}

// toClient is a message with a copy of some entries.
func toClient(who, from int, l []impl.Entry) impl.Letter {
	return impl.Letter{To: who, From: from, List: slices.Clone(l)}
}

// doing is the event that a client does a change.
func doing(who int, o impl.Op) impl.Event {
	return impl.Event{Kind: impl.EvDo, Who: who, Op: o}
}

// of is an event of a client.
func of(kind, who int) impl.Event {
	return impl.Event{Kind: kind, Who: who}
}

// news is the event that the durable entries after the first so many are sent to a client.
func news(who, from int) impl.Event {
	return impl.Event{Kind: impl.EvNews, Who: who, N: from}
}

// numbered is an event with a number, of no client.
func numbered(kind, n int) impl.Event {
	return impl.Event{Kind: kind, N: n}
}

// after is what WorldDo makes of a run by events in order.
func after(w impl.World, events ...impl.Event) impl.World {
	for _, e := range events {
		w = impl.WorldDo(w, e)
	}
	return w
}

// durable are the durable entries.
func durable(s impl.Server) []impl.Entry {
	return s.Log[:s.Safe]
}

// ownOf are the own entries of a client: applied ones, and then waiting ones.
func ownOf(w impl.World, who int) []impl.Entry {
	c := w.Clients[who-1]
	return slices.Concat(entriesBy(w.Server.Log[:c.Seen], who), c.Wait)
}

// rowsMade are the rows that entries create, in order.
func rowsMade(l []impl.Entry) []int {
	var rows []int
	for _, e := range l {
		if e.Op.Kind == impl.OpMake {
			rows = append(rows, e.Op.Id)
		}
	}
	return rows
}

// hasAll says whether each entry is among others.
func hasAll(all, some []impl.Entry) bool {
	return !slices.ContainsFunc(some, func(e impl.Entry) bool { return !slices.Contains(all, e) })
}

// isPart says whether entries are some of a list that stand together, from an index on.
func isPart(all []impl.Entry, from int, some []impl.Entry) bool {
	for i, e := range some {
		if from < 0 || from+i >= len(all) || all[from+i] != e {
			return false
		}
	}
	return from >= 0 && from <= len(all)
}

// isWorld says whether a run is valid, sentence by sentence as the document does.
func isWorld(w impl.World) bool {
	s := w.Server
	if !isLog(s.Log) || s.Safe < 0 || s.Safe > len(s.Log) || len(w.Clients) != 3 {
		return false
	}
	for i, c := range w.Clients {
		if c.Who != i+1 || !isValidClient(c) || !isClientOf(w, c) {
			return false
		}
	}
	if len(w.Nets) > 12 {
		return false
	}
	return !slices.ContainsFunc(w.Nets, func(l impl.Letter) bool { return !isLetterIn(w, l) })
}

func isClientOf(w impl.World, c impl.Client) bool {
	s := w.Server
	if c.Seen > s.Safe || !slices.Equal(c.Base, wantTree(s.Log[:c.Seen])) || len(entriesBy(s.Log[:c.Seen], c.Who)) != c.Done {
		return false
	}
	own := ownOf(w, c.Who)
	return slices.Equal(rowsMade(own), made[c.Who][:c.Made]) && hasAll(own, entriesBy(s.Log, c.Who))
}

func isLetterIn(w impl.World, l impl.Letter) bool {
	if l.To != 0 {
		_, client := made[l.To]
		return client && isPart(durable(w.Server), l.From, l.List)
	}
	if l.From != 0 || len(l.List) != 1 || !isEntry(l.List[0]) {
		return false
	}
	return slices.Contains(ownOf(w, l.List[0].Who), l.List[0])
}

// wantEvent is what WorldDo has to return for a valid run.
func wantEvent(w impl.World, e impl.Event) impl.World {
	w = copyWorld(w)
	_, client := made[e.Who]
	waits := e.N >= 0 && e.N < len(w.Nets)
	switch {
	case e.Kind == impl.EvDo && client:
		w.Clients[e.Who-1], _ = wantClientDo(w.Clients[e.Who-1], e.Op)
	case e.Kind == impl.EvSend && client:
		for _, own := range w.Clients[e.Who-1].Wait {
			w.Nets = append(w.Nets, toServer(own))
		}
	case e.Kind == impl.EvSync && w.Server.Up:
		w.Server.Safe = len(w.Server.Log)
	case e.Kind == impl.EvNews && client && w.Server.Up && e.N >= 0 && e.N <= w.Server.Safe:
		w.Nets = append(w.Nets, impl.Letter{To: e.Who, From: e.N, List: wantNews(w.Server, e.N)})
	case e.Kind == impl.EvFall && e.N >= 0 && e.N <= 40:
		w.Server = wantFall(w.Server, e.N)
	case e.Kind == impl.EvDown || e.Kind == impl.EvRise:
		w.Server.Up = e.Kind == impl.EvRise
	case e.Kind == impl.EvBring && waits:
		wantBrought(&w, w.Nets[e.N])
		w.Nets = slices.Delete(w.Nets, e.N, e.N+1)
	case e.Kind == impl.EvLose && waits:
		w.Nets = slices.Delete(w.Nets, e.N, e.N+1)
	case e.Kind == impl.EvTwice && waits:
		w.Nets = append(w.Nets, copyLetter(w.Nets[e.N]))
	}
	w.Nets = w.Nets[:min(12, len(w.Nets))]
	return w
}

func wantBrought(w *impl.World, l impl.Letter) {
	if l.To == 0 {
		w.Server, _ = wantHear(w.Server, l.List[0])
		return
	}
	w.Clients[l.To-1], _ = wantDelivery(w.Clients[l.To-1], l.From, l.List)
}

// wantCalm is what WorldCalm has to return for a valid run: what each client has beyond the log comes behind it, while there is space.
func wantCalm(w impl.World) impl.World {
	log := slices.Clone(w.Server.Log)
	for who := 1; who <= 3; who++ {
		beyond := ownOf(w, who)[len(entriesBy(log, who)):]
		log = append(log, beyond[:min(len(beyond), 40-len(log))]...)
	}
	calm := impl.World{Server: impl.Server{Log: log, Safe: len(log), Up: true}}
	for who := 1; who <= 3; who++ {
		done := len(entriesBy(log, who))
		calm.Clients = append(calm.Clients, impl.Client{Who: who, Seen: len(log), Base: wantTree(log), Wait: ownOf(w, who)[done:], Done: done, Made: w.Clients[who-1].Made})
	}
	return calm
}

// smallEvents are those that smallWorlds come from.
func smallEvents() []impl.Event {
	return []impl.Event{
		doing(1, makeOp(11, 1, 0, "a")), doing(2, makeOp(21, 11, 0, "")), doing(1, moveOp(11, 21, 0)), doing(2, textOp(11, "b")),
		of(impl.EvSend, 1), of(impl.EvSend, 2), of(impl.EvSync, 0), news(1, 0), news(2, 1), numbered(impl.EvFall, 0), numbered(impl.EvFall, 1),
		of(impl.EvDown, 0), of(impl.EvRise, 0), numbered(impl.EvBring, 0), numbered(impl.EvBring, 1), numbered(impl.EvLose, 0), numbered(impl.EvTwice, 0),
	}
}

// smallWorlds are all that come of up to four events of smallEvents, each once.
var smallWorlds = sync.OnceValue(func() []impl.World {
	all := []impl.World{newWorld()}
	seen := map[string]bool{fmt.Sprint(newWorld()): true}
	from := 0
	for range 4 {
		end := len(all)
		for _, w := range all[from:end] {
			for _, e := range smallEvents() {
				next := wantEvent(w, e)
				if name := fmt.Sprint(next); !seen[name] {
					seen[name] = true
					all = append(all, next)
				}
			}
		}
		from = end
	}
	return all
})

// anyOwn is a number of entries of one client, which make its rows in turn.
func anyOwn(random *rand.Rand, who, length int) []impl.Entry {
	var own []impl.Entry
	rows := 0
	for len(own) < length {
		o := anyChange(random, who)
		if o.Kind == impl.OpMake {
			if rows == 6 {
				continue
			}
			o.Id = made[who][rows]
			rows++
		}
		own = append(own, impl.Entry{Who: who, Seq: len(own) + 1, Op: o})
	}
	return own
}

// anyLetter is a message that can be in transit in a run.
func anyLetter(random *rand.Rand, w impl.World) impl.Letter {
	who := 1 + random.Intn(3)
	if own := ownOf(w, who); len(own) > 0 && random.Intn(2) == 0 {
		return toServer(own[random.Intn(len(own))])
	}
	from := random.Intn(w.Server.Safe + 1)
	to := from + random.Intn(w.Server.Safe-from+1)
	return toClient(who, from, w.Server.Log[from:to])
}

// builtWorld is any valid run, also one with more entries than so many events can bring about; the same seed gives the same.
func builtWorld(seed int64) impl.World {
	random := rand.New(rand.NewSource(seed))
	most := []int{2, 5, 13, 40}[random.Intn(4)]
	own := map[int][]impl.Entry{}
	total := 0
	for who := 1; who <= 3; who++ {
		own[who] = anyOwn(random, who, random.Intn(most+1))
		total += len(own[who])
	}
	length := min(40, total)
	if random.Intn(3) > 0 {
		length = random.Intn(length + 1)
	}
	var log []impl.Entry
	for len(log) < length {
		who := 1 + random.Intn(3)
		if done := len(entriesBy(log, who)); done < len(own[who]) {
			log = append(log, own[who][done])
		}
	}
	w := impl.World{Server: impl.Server{Log: log, Safe: random.Intn(len(log) + 1), Up: random.Intn(3) > 0}}
	for who := 1; who <= 3; who++ {
		seen := random.Intn(w.Server.Safe + 1)
		done := len(entriesBy(log[:seen], who))
		w.Clients = append(w.Clients, impl.Client{Who: who, Seen: seen, Base: wantTree(log[:seen]), Wait: own[who][done:], Done: done, Made: len(rowsMade(own[who]))})
	}
	for range random.Intn(13) {
		w.Nets = append(w.Nets, anyLetter(random, w))
	}
	return copyWorld(w)
}

// builtWorlds are some of every size.
var builtWorlds = sync.OnceValue(func() []impl.World {
	var all []impl.World
	for seed := range int64(150) {
		all = append(all, builtWorld(seed))
	}
	return all
})

// someWorlds are valid ones: small ones and built ones.
func someWorlds() []impl.World {
	return slices.Concat(smallWorlds(), builtWorlds())
}

// numbersFor are some for an event in a run: those around what there is of messages, of durable entries, and of others.
func numbersFor(w impl.World) []int {
	safe, beyond := w.Server.Safe, len(w.Server.Log)-w.Server.Safe
	all := []int{-1, 0, 1, len(w.Nets) - 1, len(w.Nets), safe - 1, safe, safe + 1, beyond - 1, beyond, beyond + 1, 11, 12, 40, 41}
	slices.Sort(all)
	return slices.Compact(all)
}

// eventsFor are some for a run, possible and not.
func eventsFor(w impl.World) []impl.Event {
	all := []impl.Event{of(impl.EvSync, 0), of(impl.EvDown, 0), of(impl.EvRise, 0)}
	for who := 0; who <= 4; who++ {
		for _, o := range []impl.Op{textOp(11, "d"), moveOp(21, 11, 0), makeOp(11, 1, 0, "c"), makeOp(22, 2, 11, ""), {}, textOp(11, "e")} {
			all = append(all, doing(who, o))
		}
		all = append(all, of(impl.EvSend, who))
		if who >= 1 && who <= 3 && w.Clients[who-1].Made < 6 {
			all = append(all, doing(who, makeOp(made[who][w.Clients[who-1].Made], 21, 0, "b")))
		}
	}
	for _, n := range numbersFor(w) {
		for who := 0; who <= 4; who++ {
			all = append(all, news(who, n))
		}
		for _, kind := range []int{impl.EvFall, impl.EvBring, impl.EvLose, impl.EvTwice, 0, 11, -1} {
			all = append(all, numbered(kind, n))
		}
	}
	return all
}

// eachEvent goes over runs and events.
func eachEvent(call func(w impl.World, e impl.Event)) {
	for i, w := range someWorlds() {
		for j, e := range eventsFor(w) {
			// Of the small runs each has every fourth event, and all together every one.
			if len(w.Server.Log) > 2 || (i+j)%4 == 0 {
				call(w, e)
			}
		}
	}
}

// untouchedWorld calls with a run whose slices have spare capacity and fails if any of its memory was written to.
func untouchedWorld(t *testing.T, w impl.World, call func(w impl.World)) {
	t.Helper()
	arg := roomyWorld(w)
	whole := wholeWorld(arg)
	before := copyWorld(whole)
	call(arg)
	if !sameWorld(whole, before) {
		t.Errorf("an argument was changed from %v to %v", before, whole)
	}
}

// roomyWorld is an equal run of which each slice has spare capacity.
func roomyWorld(w impl.World) impl.World {
	roomy := impl.World{Server: impl.Server{Log: append(make([]impl.Entry, 0, 64), w.Server.Log...), Safe: w.Server.Safe, Up: w.Server.Up}}
	roomy.Clients = make([]impl.Client, 0, 8)
	for _, c := range w.Clients {
		c.Base = append(make([]impl.Row, 0, 32), c.Base...)
		c.Wait = append(make([]impl.Entry, 0, 64), c.Wait...)
		roomy.Clients = append(roomy.Clients, c)
	}
	roomy.Nets = make([]impl.Letter, 0, 32)
	for _, l := range w.Nets {
		l.List = append(make([]impl.Entry, 0, 64), l.List...)
		roomy.Nets = append(roomy.Nets, l)
	}
	return roomy
}

// wholeWorld is a run with all its memory, of each slice up to its capacity.
func wholeWorld(w impl.World) impl.World {
	whole := impl.World{Server: w.Server}
	whole.Server.Log = w.Server.Log[:cap(w.Server.Log)]
	for _, c := range w.Clients[:cap(w.Clients)] {
		c.Base, c.Wait = c.Base[:cap(c.Base)], c.Wait[:cap(c.Wait)]
		whole.Clients = append(whole.Clients, c)
	}
	for _, l := range w.Nets[:cap(w.Nets)] {
		l.List = l.List[:cap(l.List)]
		whole.Nets = append(whole.Nets, l)
	}
	return whole
}

// spoilers write to all memory of one slice of a run, and put one that is equal to what was there in its place.
func spoilers(w *impl.World) []func() {
	all := []func(){
		func() { w.Server.Log = spoilt(w.Server.Log, impl.Entry{Who: -9}) },
		func() { w.Clients = spoilt(w.Clients, impl.Client{Who: -9}) },
		func() { w.Nets = spoilt(w.Nets, impl.Letter{To: -9}) },
	}
	for i := range w.Clients {
		all = append(all, func() { w.Clients[i].Base = spoilt(w.Clients[i].Base, impl.Row{Id: -9}) })
		all = append(all, func() { w.Clients[i].Wait = spoilt(w.Clients[i].Wait, impl.Entry{Who: -9}) })
	}
	for i := range w.Nets {
		all = append(all, func() { w.Nets[i].List = spoilt(w.Nets[i].List, impl.Entry{Who: -9}) })
	}
	return all
}

// spoilt is a copy of a slice, all memory of which is overwritten.
func spoilt[T any](s []T, mark T) []T {
	kept := slices.Clone(s)
	whole := s[:cap(s)]
	for i := range whole {
		whole[i] = mark
	}
	return kept
}

// spoilWorld writes to all memory of a run.
func spoilWorld(w impl.World) {
	for i := range w.Clients {
		spoilRows(w.Clients[i].Base)
		spoil(w.Clients[i].Wait)
	}
	for i := range w.Nets {
		spoil(w.Nets[i].List)
	}
	spoil(w.Server.Log)
	spoilt(w.Clients, impl.Client{Who: -9})
	spoilt(w.Nets, impl.Letter{To: -9})
}

func TestWorldConstants(t *testing.T) {
	kinds := []int{impl.EvDo, impl.EvSend, impl.EvSync, impl.EvNews, impl.EvFall, impl.EvDown, impl.EvRise, impl.EvBring, impl.EvLose, impl.EvTwice}
	if impl.NetMax != 12 || impl.PlayMax != 50 || !slices.Equal(kinds, []int{1, 2, 3, 4, 5, 6, 7, 8, 9, 10}) {
		t.Errorf("the limits are %d and %d, the kinds %v", impl.NetMax, impl.PlayMax, kinds)
	}
}

func TestWorldNew(t *testing.T) {
	w := impl.WorldNew()
	if !sameWorld(w, newWorld()) || !isWorld(w) || !impl.WorldOk(w) {
		t.Errorf("WorldNew() = %v", w)
	}
	spoilWorld(w)
	if again := impl.WorldNew(); !sameWorld(again, newWorld()) {
		t.Errorf("after writing to a new run another one is %v", again)
	}
}

// P75: WorldOk is as the document has it.
func TestWorldOk(t *testing.T) {
	t.Parallel()
	for _, w := range someWorlds() {
		if !isWorld(w) || !impl.WorldOk(w) {
			t.Fatalf("%v is invalid", w)
		}
	}
}

// changedWorld is a copy of a run in which something small is another one, which is often no longer valid.
func changedWorld(random *rand.Rand, w impl.World) impl.World {
	w = copyWorld(w)
	step := 1 - 2*random.Intn(2)
	c := &w.Clients[random.Intn(3)]
	switch random.Intn(12) {
	case 0:
		w.Server.Safe += step
	case 1:
		w.Server.Log = w.Server.Log[:random.Intn(len(w.Server.Log)+1)]
	case 2:
		who := 1 + random.Intn(3)
		w.Server.Log = append(w.Server.Log, impl.Entry{Who: who, Seq: len(entriesBy(w.Server.Log, who)) + 1, Op: anyChange(random, who)})
	case 3:
		c.Seen += step
	case 4:
		c.Done += step
	case 5:
		c.Made += step
	case 6:
		c.Base = wantDo(c.Base, anyChange(random, c.Who))
	case 7:
		c.Wait = c.Wait[:random.Intn(len(c.Wait)+1)]
	case 8:
		c.Wait = append(c.Wait, impl.Entry{Who: c.Who, Seq: c.Done + len(c.Wait) + 1, Op: anyChange(random, c.Who)})
	case 9:
		if len(c.Wait) > 0 {
			c.Wait[random.Intn(len(c.Wait))].Op = anyChange(random, c.Who)
		}
	case 10:
		w.Nets = append(w.Nets, anyLetter(random, w))
	default:
		if len(w.Nets) > 0 {
			changeLetter(random, &w.Nets[random.Intn(len(w.Nets))])
		}
	}
	return w
}

func changeLetter(random *rand.Rand, l *impl.Letter) {
	switch random.Intn(5) {
	case 0:
		l.To = random.Intn(6) - 1
	case 1:
		l.From = random.Intn(6) - 1
	case 2:
		l.List = l.List[:random.Intn(len(l.List)+1)]
	case 3:
		who := 1 + random.Intn(3)
		l.List = append(l.List, impl.Entry{Who: who, Seq: 1 + random.Intn(4), Op: anyChange(random, who)})
	default:
		if len(l.List) > 0 {
			l.List[random.Intn(len(l.List))].Seq = 1 + random.Intn(4)
		}
	}
}

// P75: runs in which something small was changed are valid or not as the document has it, and each is so often.
func TestWorldOkOfChangedWorlds(t *testing.T) {
	t.Parallel()
	seen := map[bool]int{}
	random := rand.New(rand.NewSource(1))
	for i, w := range someWorlds() {
		times := 2
		if i >= len(smallWorlds()) {
			times = 60
		}
		for range times {
			changed := changedWorld(random, w)
			want := isWorld(changed)
			if got := impl.WorldOk(changed); got != want {
				t.Fatalf("WorldOk(%v) = %v", changed, got)
			}
			if got := impl.WorldCalm(changed); noWorld(got) == want {
				t.Fatalf("WorldCalm(%v) = %v", changed, got)
			}
			seen[want]++
		}
	}
	if seen[true] < 500 || seen[false] < 500 {
		t.Errorf("%d changed runs are valid, and %d are not", seen[true], seen[false])
	}
}

// richWorld is a run with all that there can be: durable entries and others, of which clients have applied some, and messages of each kind. Entry 2 of client 1 is durable, but applied only by client 2, and entry 3 of it is not durable; entry 4 of it and entry 2 of client 2 were not heard; entry 1 of client 3 was not even sent.
func richWorld() impl.World {
	log := logOf("1 1 make 11 1 0 'a'", "2 1 make 21 11 0 'b'", "1 2 text 21 'c'", "1 3 make 12 1 11 ''")
	return impl.World{
		Server: impl.Server{Log: log, Safe: 3, Up: true},
		Clients: []impl.Client{
			{Who: 1, Seen: 2, Base: rowsOf("1", ".11 a", "..21 b", "2", "3"), Wait: logOf("1 2 text 21 'c'", "1 3 make 12 1 11 ''", "1 4 move 12 11 0"), Done: 1, Made: 2},
			{Who: 2, Seen: 3, Base: rowsOf("1", ".11 a", "..21 c", "2", "3"), Wait: logOf("2 2 make 22 21 0 'd'"), Done: 1, Made: 2},
			{Who: 3, Base: rowsOf("1", "2", "3"), Wait: logOf("3 1 make 31 1 0 ''"), Made: 1},
		},
		Nets: []impl.Letter{
			toServer(entryOf(1, 4, "move 12 11 0")), toClient(3, 0, log[:2]), toServer(entryOf(1, 1, "make 11 1 0 'a'")),
			toClient(1, 2, log[2:3]), toClient(2, 3, nil), toServer(entryOf(2, 2, "make 22 21 0 'd'")),
		},
	}
}

// notWorlds are invalid ones, by what is wrong with them.
func notWorlds() map[string]impl.World {
	all := map[string]impl.World{"the zero value": {}}
	for name, good := range map[string]impl.World{"new": newWorld(), "rich": richWorld(), "large": largeWorld()} {
		add := func(what string, spoil func(w *impl.World)) {
			w := copyWorld(good)
			spoil(&w)
			all[name+", "+what] = w
		}
		breakServer(add)
		breakClients(add)
		breakEachClient(add, good)
		breakNets(add, good)
	}
	breakRich(all)
	return all
}

// largeWorld is a valid run with 40 entries.
func largeWorld() impl.World {
	for seed := int64(0); ; seed++ {
		if w := builtWorld(seed); len(w.Server.Log) == 40 && w.Server.Safe > 10 && len(w.Nets) > 3 {
			return w
		}
	}
}

func breakServer(add func(what string, spoil func(w *impl.World))) {
	add("no server", func(w *impl.World) { w.Server = impl.Server{Safe: 1} })
	add("Safe is -1", func(w *impl.World) { w.Server.Safe = -1 })
	add("Safe is beyond", func(w *impl.World) { w.Server.Safe = len(w.Server.Log) + 1 })
	for i, n := range farNumbers {
		add(fmt.Sprint("Safe is far number ", i), func(w *impl.World) { w.Server.Safe = n })
	}
	for what, e := range map[string]impl.Entry{"the zero value": {}, "of no client": {Who: 4, Seq: 1, Op: textOp(11, "a")}, "far off": {Who: 3, Seq: 40, Op: textOp(11, "a")}} {
		add("an entry of the log is "+what, func(w *impl.World) { w.Server.Log = append(w.Server.Log, e) })
		add("the first entry of the log is "+what, func(w *impl.World) { w.Server.Log = slices.Insert(w.Server.Log, 0, e) })
	}
	add("an entry that nobody made", func(w *impl.World) {
		own := len(entriesBy(w.Server.Log, 3))
		w.Server.Log = append(w.Server.Log[:min(39, len(w.Server.Log))], impl.Entry{Who: 3, Seq: own + 1, Op: textOp(16, "dddd")})
	})
}

func breakClients(add func(what string, spoil func(w *impl.World))) {
	add("no clients", func(w *impl.World) { w.Clients = nil })
	add("empty clients", func(w *impl.World) { w.Clients = []impl.Client{} })
	for n := range 3 {
		add(fmt.Sprint("only clients up to ", n), func(w *impl.World) { w.Clients = w.Clients[:n] })
		add(fmt.Sprint("one left out at ", n), func(w *impl.World) { w.Clients = slices.Delete(w.Clients, n, n+1) })
		add(fmt.Sprint("one twice at ", n), func(w *impl.World) { w.Clients = slices.Insert(w.Clients, n, w.Clients[n]) })
		add(fmt.Sprint("one instead of the next at ", n), func(w *impl.World) { w.Clients[(n+1)%3] = copyClient(w.Clients[n]) })
		add(fmt.Sprint("turned around at ", n), func(w *impl.World) {
			w.Clients[n], w.Clients[(n+1)%3] = w.Clients[(n+1)%3], w.Clients[n]
		})
		add(fmt.Sprint("another number at ", n), func(w *impl.World) { w.Clients[n].Who = (n+1)%3 + 1 })
		add(fmt.Sprint("number 0 at ", n), func(w *impl.World) { w.Clients[n].Who = 0 })
		add(fmt.Sprint("number 4 at ", n), func(w *impl.World) { w.Clients[n].Who = 4 })
		add(fmt.Sprint("the zero value at ", n), func(w *impl.World) { w.Clients[n] = impl.Client{} })
	}
	add("a fourth one", func(w *impl.World) { w.Clients = append(w.Clients, newClient(1)) })
	add("a fourth one that is none", func(w *impl.World) { w.Clients = append(w.Clients, impl.Client{}) })
	for what, c := range notClients() {
		// Each invalid client stands where its number is, or first if it has none.
		n := 0
		if c.Who >= 1 && c.Who <= 3 {
			n = c.Who - 1
		}
		add("an invalid client, "+what, func(w *impl.World) { w.Clients[n] = c })
	}
}

func breakEachClient(add func(what string, spoil func(w *impl.World)), good impl.World) {
	for n, c := range good.Clients {
		name := fmt.Sprint("client ", n+1, ": ")
		for _, step := range []int{-41, -6, -2, -1, 1, 2, 6, 41} {
			add(name+fmt.Sprint("Made is wrong by ", step), func(w *impl.World) { w.Clients[n].Made += step })
			add(name+fmt.Sprint("Done is wrong by ", step), func(w *impl.World) { w.Clients[n].Done += step })
		}
		for _, seen := range []int{-1, good.Server.Safe + 1, len(good.Server.Log) + 1, 41, 100} {
			add(name+fmt.Sprint("Seen is ", seen), func(w *impl.World) { w.Clients[n].Seen = seen })
		}
		for _, seen := range []int{good.Server.Safe + 1, len(good.Server.Log)} {
			if seen <= good.Server.Safe || seen > len(good.Server.Log) {
				continue
			}
			add(name+fmt.Sprint("what is not durable is applied up to ", seen), func(w *impl.World) {
				own := ownOf(*w, n+1)
				done := len(entriesBy(w.Server.Log[:seen], n+1))
				w.Clients[n] = impl.Client{Who: n + 1, Seen: seen, Base: wantTree(w.Server.Log[:seen]), Wait: own[done:], Done: done, Made: c.Made}
			})
		}
		for what, base := range map[string][]impl.Row{"nil": nil, "empty": {}, "another one": rowsOf("1", ".36 dddd", "2", "3"), "found": rowsOf("1", "2", "3", ".11 a")} {
			add(name+"Base is "+what, func(w *impl.World) { w.Clients[n].Base = base })
		}
		add(name+"a row of Base is missing, or one is too many", func(w *impl.World) {
			if last := len(c.Base) - 1; c.Base[last].Depth > 0 {
				w.Clients[n].Base = slices.Delete(w.Clients[n].Base, last, last+1)
			} else {
				w.Clients[n].Base = append(w.Clients[n].Base, impl.Row{Id: 36, Depth: 1})
			}
		})
		add(name+"a waiting entry makes a row out of turn", func(w *impl.World) {
			own := &w.Clients[n]
			own.Wait = append(own.Wait, impl.Entry{Who: n + 1, Seq: own.Done + len(own.Wait) + 1, Op: makeOp(made[n+1][0], 1, 0, "")})
			own.Made = 6
		})
		add(name+"a waiting entry of another one", func(w *impl.World) {
			own := &w.Clients[n]
			own.Wait = append(own.Wait, impl.Entry{Who: (n+1)%3 + 1, Seq: own.Done + len(own.Wait) + 1, Op: textOp(11, "a")})
		})
	}
}

func breakNets(add func(what string, spoil func(w *impl.World)), good impl.World) {
	safe, log := good.Server.Safe, good.Server.Log
	other := entryOf(1, 1, "text 36 'dcb'")
	beyond := impl.Entry{Who: 1, Seq: min(40, len(ownOf(good, 1))+1), Op: textOp(36, "dcb")}
	letters := map[string]impl.Letter{
		"no entry to the server":         {},
		"an empty list to the server":    {List: []impl.Entry{}},
		"the zero value to the server":   {List: []impl.Entry{{}}},
		"an entry that none made":        toServer(other),
		"an entry that is not made yet":  toServer(beyond),
		"From is 1 of none":              {From: 1},
		"From is -1 of none":             {From: -1},
		"to client 4":                    {To: 4},
		"to client -1":                   {To: -1},
		"to client 11":                   {To: 11},
		"to client 4 with news":          toClient(4, 0, log[:safe]),
		"none from beyond Safe":          {To: 1, From: safe + 1},
		"none from -1":                   {To: 1, From: -1},
		"none from beyond all":           {To: 2, From: len(log) + 1},
		"none from 41":                   {To: 2, From: 41},
		"an entry that is none":          toClient(1, 0, []impl.Entry{{}}),
		"an entry that is not there":     toClient(1, safe, []impl.Entry{other}),
		"another entry":                  toClient(3, 0, []impl.Entry{other}),
		"the last durable and a further": toClient(2, safe, append(slices.Clone(log[safe:]), other)),
		"all and a further":              toClient(2, 0, append(slices.Clone(log), other)),
	}
	for i, n := range farNumbers {
		letters[fmt.Sprint("none from far number ", i)] = impl.Letter{To: 3, From: n}
		letters[fmt.Sprint("to far number ", i)] = impl.Letter{To: n}
	}
	for what, e := range notEntries() {
		letters["to the server "+what] = toServer(e)
		letters["to a client "+what] = toClient(2, 0, []impl.Entry{e})
	}
	for who := 1; who <= 3; who++ {
		own := ownOf(good, who)
		if len(own) == 0 {
			continue
		}
		last := own[len(own)-1]
		letters[fmt.Sprint("two entries of ", who)] = impl.Letter{List: []impl.Entry{own[0], last}}
		letters[fmt.Sprint("From is 1 of an entry of ", who)] = impl.Letter{From: 1, List: []impl.Entry{last}}
		letters[fmt.Sprint("From is -1 of an entry of ", who)] = impl.Letter{From: -1, List: []impl.Entry{own[0]}}
		last.Op = textOp(36, "dcb")
		letters[fmt.Sprint("a changed entry of ", who)] = toServer(last)
	}
	for what, l := range letters {
		add("a message, "+what, func(w *impl.World) { w.Nets = []impl.Letter{l} })
		add("a last message, "+what, func(w *impl.World) { w.Nets = append(w.Nets[:min(3, len(w.Nets))], l) })
	}
	for _, n := range []int{13, 14, 40} {
		add(fmt.Sprint(n, " messages"), func(w *impl.World) {
			for len(w.Nets) < n {
				w.Nets = append(w.Nets, impl.Letter{To: 1 + len(w.Nets)%3})
			}
		})
	}
}

// breakRich has what is wrong with entries of richWorld, of which each is in a state of its own.
func breakRich(all map[string]impl.World) {
	add := func(what string, spoil func(w *impl.World)) {
		w := richWorld()
		spoil(&w)
		all["rich, "+what] = w
	}
	log := richWorld().Server.Log
	add("a durable entry is not its client's", func(w *impl.World) { w.Clients[0].Wait = nil; w.Clients[0].Made = 1; w.Nets = nil })
	add("a heard entry is not its client's", func(w *impl.World) {
		w.Clients[0].Wait, w.Clients[0].Made, w.Nets = w.Clients[0].Wait[:1], 1, nil
	})
	add("a heard entry is another one at its client", func(w *impl.World) {
		w.Clients[0].Wait[1].Op.Text = "d"
		w.Nets = nil
	})
	add("a durable entry is another one at its client", func(w *impl.World) {
		w.Clients[0].Wait[0].Op.Text = "d"
		w.Nets = nil
	})
	add("a message after its entry is gone", func(w *impl.World) { w.Clients[0].Wait = w.Clients[0].Wait[:2] })
	add("a message of what is not durable", func(w *impl.World) { w.Nets[3] = toClient(1, 2, log[2:4]) })
	add("a message of only what is not durable", func(w *impl.World) { w.Nets[3] = toClient(1, 3, log[3:4]) })
	add("a message after its entries are not durable", func(w *impl.World) { w.Nets[3] = toClient(3, 4, nil) })
	add("a message with a gap", func(w *impl.World) { w.Nets[1] = toClient(3, 0, slices.Concat(log[:1], log[2:3])) })
	add("a message from one too far", func(w *impl.World) { w.Nets[1].From = 1 })
	add("a message from one too near", func(w *impl.World) { w.Nets[3].From = 1 })
	add("a message turned around", func(w *impl.World) { w.Nets[1] = toClient(3, 0, slices.Concat(log[1:2], log[:1])) })
	add("a message with one twice", func(w *impl.World) { w.Nets[1] = toClient(3, 0, slices.Concat(log[:1], log[:1])) })
	add("a message to the server as news", func(w *impl.World) { w.Nets[1].To = 0 })
	add("an entry of the server to a client", func(w *impl.World) { w.Nets[0].To = 1 })
	add("a base too old", func(w *impl.World) { w.Clients[1].Base = wantTree(log[:2]) })
	add("a base too new", func(w *impl.World) { w.Clients[0].Base = wantTree(log[:3]) })
	add("a base with a text", func(w *impl.World) { w.Clients[0].Base[1].Text = "b" })
	add("rows turned around", func(w *impl.World) {
		w.Clients[2].Wait = logOf("3 1 make 32 1 0 ''", "3 2 make 31 1 0 ''")
		w.Clients[2].Made = 2
	})
	add("a row twice", func(w *impl.World) {
		w.Clients[2].Wait = logOf("3 1 make 31 1 0 ''", "3 2 make 31 1 0 ''")
		w.Clients[2].Made = 2
	})
	add("a row that was made before", func(w *impl.World) {
		w.Clients[1].Wait = logOf("2 2 make 21 1 0 ''")
		w.Nets = nil
	})
	for _, done := range []int{0, 2, 3} {
		add(fmt.Sprint("nothing waits, and Done is ", done), func(w *impl.World) {
			w.Clients[1].Wait, w.Clients[1].Made, w.Clients[1].Done = nil, 1, done
			w.Nets = nil
		})
	}
	add("a row that no entry makes", func(w *impl.World) { w.Clients[2].Made = 2 })
	add("no row where one was made", func(w *impl.World) { w.Clients[2].Wait = nil })
}

// P75: nothing comes of a run that is invalid, whatever the event.
func TestNothingComesOfAnInvalidWorld(t *testing.T) {
	t.Parallel()
	events := []impl.Event{
		{}, doing(1, textOp(11, "a")), doing(3, makeOp(31, 1, 0, "")), doing(1, impl.Op{}), of(impl.EvSend, 1), of(impl.EvSync, 0), news(2, 0),
		numbered(impl.EvFall, 0), numbered(impl.EvFall, 41), of(impl.EvDown, 0), of(impl.EvRise, 0), numbered(impl.EvBring, 0), numbered(impl.EvBring, -1),
		numbered(impl.EvLose, 0), numbered(impl.EvTwice, 0), numbered(99, 0),
	}
	all := notWorlds()
	for what, w := range all {
		if isWorld(w) || impl.WorldOk(w) {
			t.Errorf("%s: %v is valid", what, w)
		}
		for _, e := range events {
			if got := impl.WorldDo(w, e); !noWorld(got) {
				t.Errorf("%s: WorldDo of %v = %v", what, e, got)
			}
		}
		if got := impl.WorldCalm(w); !noWorld(got) {
			t.Errorf("%s: WorldCalm = %v", what, got)
		}
	}
	if len(all) < 500 {
		t.Errorf("there are only %d invalid runs", len(all))
	}
}

// P75: what is just valid.
func TestWorldOkWrittenOut(t *testing.T) {
	rich := func(change func(w *impl.World)) impl.World {
		w := richWorld()
		change(&w)
		return w
	}
	log := richWorld().Server.Log
	for what, w := range map[string]impl.World{
		"rich":                            richWorld(),
		"not running":                     rich(func(w *impl.World) { w.Server.Up = false }),
		"all durable":                     rich(func(w *impl.World) { w.Server.Safe = 4 }),
		"nothing in transit":              rich(func(w *impl.World) { w.Nets = []impl.Letter{} }),
		"an applied entry to the server":  rich(func(w *impl.World) { w.Nets = []impl.Letter{toServer(log[1])} }),
		"a heard entry to the server":     rich(func(w *impl.World) { w.Nets = []impl.Letter{toServer(log[3])} }),
		"an entry that was never sent":    rich(func(w *impl.World) { w.Nets = []impl.Letter{toServer(entryOf(3, 1, "make 31 1 0 ''"))} }),
		"all durable entries to a client": rich(func(w *impl.World) { w.Nets = []impl.Letter{toClient(3, 0, log[:3])} }),
		"none from Safe":                  rich(func(w *impl.World) { w.Nets = []impl.Letter{toClient(1, 3, nil)} }),
		"none from between":               rich(func(w *impl.World) { w.Nets = []impl.Letter{toClient(1, 1, []impl.Entry{})} }),
		"not all there are":               rich(func(w *impl.World) { w.Nets = []impl.Letter{toClient(2, 1, log[1:2])} }),
		"more than has been applied":      rich(func(w *impl.World) { w.Nets = []impl.Letter{toClient(3, 2, log[2:3])} }),
		"12 messages": rich(func(w *impl.World) {
			for len(w.Nets) < 12 {
				w.Nets = append(w.Nets, toServer(log[0]))
			}
		}),
	} {
		if !isWorld(w) || !impl.WorldOk(w) {
			t.Errorf("%s: %v is invalid", what, w)
		}
	}
}

// P75, P89, P90: WorldDo is as the document has it, for each kind of event, and each changes something often.
func TestWorldDoAsStated(t *testing.T) {
	t.Parallel()
	changes := map[int]int{}
	eachEvent(func(w impl.World, e impl.Event) {
		got := impl.WorldDo(w, e)
		if want := wantEvent(w, e); !sameWorld(got, want) {
			t.Fatalf("WorldDo(%v, %v) = %v, want %v", w, e, got, want)
		}
		if !sameWorld(got, w) {
			changes[e.Kind]++
		}
	})
	for kind := impl.EvDo; kind <= impl.EvTwice; kind++ {
		if changes[kind] < 50 {
			t.Errorf("an event of kind %d changed something only %d times", kind, changes[kind])
		}
	}
	if len(changes) != 10 {
		t.Errorf("events that change something are of the kinds %v", changes)
	}
}

// P75, P93, P94: the result of WorldDo is valid; what is durable stays so; waiting entries are the previous ones without some of the first, and at most one more.
func TestWorldDoKeeps(t *testing.T) {
	t.Parallel()
	eachEvent(func(w impl.World, e impl.Event) {
		got := impl.WorldDo(w, e)
		if !isWorld(got) || !impl.WorldOk(got) {
			t.Fatalf("WorldDo(%v, %v) = %v", w, e, got)
		}
		checkKept(t, w, got)
	})
}

// checkKept checks what stays of a run after one event.
func checkKept(t *testing.T, before, got impl.World) {
	t.Helper()
	if got.Server.Safe < before.Server.Safe || got.Server.Safe > len(got.Server.Log) || !isPart(durable(got.Server), 0, durable(before.Server)) {
		t.Fatalf("the server %v becomes %v", before.Server, got.Server)
	}
	if tree := impl.LogTree(got.Server.Log[:before.Server.Safe]); !slices.Equal(tree, wantTree(durable(before.Server))) {
		t.Fatalf("what was durable gives %v afterwards", tree)
	}
	for i, c := range got.Clients {
		if !slices.Equal(c.Base, impl.LogTree(durable(got.Server)[:c.Seen])) {
			t.Fatalf("client %v does not have what is durable at %v", c, got.Server)
		}
		old := before.Clients[i].Wait
		gone := c.Done - before.Clients[i].Done
		if gone < 0 || gone > len(old) {
			t.Fatalf("client %v becomes %v", before.Clients[i], c)
		}
		left := old[gone:]
		if !isPart(c.Wait, 0, left) || len(c.Wait) > len(left)+1 {
			t.Fatalf("client %v becomes %v", before.Clients[i], c)
		}
	}
}

// P87: EvSend sends a message for each waiting entry, in order, as far as there is space; all else is unchanged.
func TestSend(t *testing.T) {
	t.Parallel()
	for _, w := range someWorlds() {
		for who := 1; who <= 3; who++ {
			got := impl.WorldDo(w, of(impl.EvSend, who))
			wait := w.Clients[who-1].Wait
			if len(got.Nets) != min(12, len(w.Nets)+len(wait)) || !sameLetters(got.Nets[:len(w.Nets)], w.Nets) {
				t.Fatalf("in %v client %d sends %v", w, who, got.Nets)
			}
			for i, l := range got.Nets[len(w.Nets):] {
				if !sameLetter(l, toServer(wait[i])) {
					t.Fatalf("in %v client %d sends %v", w, who, got.Nets)
				}
			}
			if !sameServer(got.Server, w.Server) || !sameClients(got.Clients, w.Clients) {
				t.Fatalf("in %v client %d sends, and there is %v", w, who, got)
			}
		}
	}
}

// P87: with each number of messages in transit and each number of waiting entries, running or not.
func TestSendWithSpace(t *testing.T) {
	t.Parallel()
	for waiting := range 41 {
		for inTransit := range 13 {
			w := newWorld()
			w.Server.Up = (waiting+inTransit)%2 == 0
			w.Clients[1].Wait = anyOwn(rand.New(rand.NewSource(7)), 2, waiting)
			w.Clients[1].Made = len(rowsMade(w.Clients[1].Wait))
			for len(w.Nets) < inTransit {
				w.Nets = append(w.Nets, impl.Letter{To: 1 + len(w.Nets)%3})
			}
			want := copyWorld(w)
			for _, e := range w.Clients[1].Wait {
				if len(want.Nets) < 12 {
					want.Nets = append(want.Nets, toServer(e))
				}
			}
			if got := after(w, of(impl.EvSend, 2)); !sameWorld(got, want) {
				t.Fatalf("with %d waiting and %d in transit, there is %v", waiting, inTransit, got)
			}
			if got := after(w, of(impl.EvSend, 1)); !sameWorld(got, w) {
				t.Fatalf("with nothing waiting and %d in transit, there is %v", inTransit, got)
			}
		}
	}
}

// P88: EvNews sends ServerNews, if the server is running and there is space; after delivery the client has applied all durable entries, if it had applied as many as were skipped.
func TestNews(t *testing.T) {
	t.Parallel()
	sent, delivered := 0, 0
	for _, w := range someWorlds() {
		for who := 1; who <= 3; who++ {
			for n := -1; n <= w.Server.Safe+1; n++ {
				got := impl.WorldDo(w, news(who, n))
				if !w.Server.Up || len(w.Nets) == 12 || n < 0 || n > w.Server.Safe {
					if !sameWorld(got, w) {
						t.Fatalf("in %v client %d has news from %d on: %v", w, who, n, got)
					}
					continue
				}
				sent++
				want := copyWorld(w)
				want.Nets = append(want.Nets, toClient(who, n, impl.ServerNews(w.Server, n)))
				if !sameWorld(got, want) || len(got.Nets[len(w.Nets)].List) != w.Server.Safe-n {
					t.Fatalf("in %v client %d has news from %d on: %v", w, who, n, got)
				}
				if n > w.Clients[who-1].Seen {
					continue
				}
				delivered++
				c := impl.WorldDo(got, numbered(impl.EvBring, len(w.Nets))).Clients[who-1]
				if c.Seen != w.Server.Safe || !slices.Equal(c.Base, impl.LogTree(durable(w.Server))) {
					t.Fatalf("in %v client %d with news from %d on is %v", w, who, n, c)
				}
			}
		}
	}
	if sent < 1000 || delivered < 1000 {
		t.Errorf("only %d news were sent and %d delivered", sent, delivered)
	}
}

// P88: numbers far out of the range.
func TestNewsFromFarNumbers(t *testing.T) {
	for _, w := range []impl.World{newWorld(), richWorld(), largeWorld()} {
		w.Server.Up = true
		w.Nets = nil
		for _, n := range append([]int{-40, -2, 41, 42}, farNumbers...) {
			if got := impl.WorldDo(w, news(2, n)); !sameWorld(got, w) {
				t.Errorf("from %d on there comes %v", n, got)
			}
		}
	}
}

// P89: EvDo is ClientDo, EvSync is ServerSync, EvFall is ServerFall, and EvBring is ServerHear or ClientHear.
func TestEventsAreTheirFunctions(t *testing.T) {
	t.Parallel()
	eachEvent(func(w impl.World, e impl.Event) {
		want := copyWorld(w)
		switch {
		case e.Kind == impl.EvDo && e.Who >= 1 && e.Who <= 3:
			want.Clients[e.Who-1], _ = impl.ClientDo(w.Clients[e.Who-1], e.Op)
		case e.Kind == impl.EvSync:
			want.Server, _ = impl.ServerSync(w.Server)
		case e.Kind == impl.EvFall && e.N >= 0 && e.N <= 40:
			want.Server = impl.ServerFall(w.Server, e.N)
		case e.Kind == impl.EvBring && e.N >= 0 && e.N < len(w.Nets):
			if l := w.Nets[e.N]; l.To == 0 {
				want.Server, _ = impl.ServerHear(w.Server, l.List[0])
			} else {
				want.Clients[l.To-1], _ = impl.ClientHear(w.Clients[l.To-1], l.From, l.List)
			}
			want.Nets = slices.Delete(want.Nets, e.N, e.N+1)
		default:
			return
		}
		if got := impl.WorldDo(w, e); !sameWorld(got, want) {
			t.Fatalf("WorldDo(%v, %v) = %v, want %v", w, e, got, want)
		}
	})
}

// P89: each number of entries that a fall can leave, with each number of those that are not durable; the server is up as before.
func TestFall(t *testing.T) {
	t.Parallel()
	for _, w := range builtWorlds() {
		for left := range 41 {
			got := impl.WorldDo(w, numbered(impl.EvFall, left))
			want := copyWorld(w)
			want.Server.Log = want.Server.Log[:min(len(w.Server.Log), w.Server.Safe+left)]
			if !sameWorld(got, want) {
				t.Fatalf("EvFall of %d in %v gives %v", left, w, got)
			}
		}
	}
}

// P90: an event of an unknown kind or client, of a message that does not exist, or with an invalid change changes nothing.
func TestImpossibleEvents(t *testing.T) {
	t.Parallel()
	worlds := []impl.World{newWorld(), richWorld(), largeWorld(), builtWorld(3), builtWorld(8)}
	for _, w := range worlds {
		var events []impl.Event
		for _, n := range append([]int{-12, -3, -2, -1, 0, 11, 12, 13, 100, 256 + impl.EvSync, 1<<16 + impl.EvDown, 1<<32 + impl.EvRise}, farNumbers...) {
			if n < impl.EvDo || n > impl.EvTwice {
				events = append(events, impl.Event{Kind: n}, impl.Event{Kind: n, Who: 1, Op: textOp(11, "a")})
			}
			if n < 0 || n >= len(w.Nets) {
				events = append(events, numbered(impl.EvBring, n), numbered(impl.EvLose, n), numbered(impl.EvTwice, n))
			}
			if n < 0 || n > 40 {
				events = append(events, numbered(impl.EvFall, n))
			}
			if n < 1 || n > 3 {
				events = append(events, doing(n, textOp(11, "a")), doing(n, makeOp(11, 1, 0, "")), of(impl.EvSend, n), news(n, 0))
			}
		}
		for _, o := range notChanges() {
			events = append(events, doing(1, o), doing(3, o))
		}
		for _, o := range []impl.Op{makeOp(36, 1, 0, ""), makeOp(21, 1, 0, ""), makeOp(31, 1, 0, "")} {
			events = append(events, doing(1, o))
		}
		for _, e := range events {
			if got := impl.WorldDo(w, e); !sameWorld(got, w) {
				t.Fatalf("WorldDo(%v, %v) = %v", w, e, got)
			}
		}
	}
}

// P89: what an event does not name does not count: any client, number and change.
func TestEventsHaveFieldsToSpare(t *testing.T) {
	for _, w := range []impl.World{newWorld(), richWorld(), largeWorld()} {
		for kind := impl.EvDo; kind <= impl.EvTwice; kind++ {
			plain := impl.Event{Kind: kind, Who: 1, Op: textOp(11, "d")}
			want := impl.WorldDo(w, plain)
			for _, odd := range []int{-1, 4, 41} {
				e := plain
				if kind != impl.EvDo {
					e.Op = impl.Op{Kind: odd, Id: odd, Text: "odd"}
				}
				if !slices.Contains([]int{impl.EvDo, impl.EvSend, impl.EvNews}, kind) {
					e.Who = odd
				}
				if !slices.Contains([]int{impl.EvNews, impl.EvFall, impl.EvBring, impl.EvLose, impl.EvTwice}, kind) {
					e.N = odd
				}
				if got := impl.WorldDo(w, e); !sameWorld(got, want) {
					t.Errorf("WorldDo(%v, %v) = %v, want %v", w, e, got, want)
				}
			}
		}
	}
}

// P90: which message is brought, lost and sent again: each of twelve, and none beside them.
func TestMessagesByIndex(t *testing.T) {
	t.Parallel()
	for inTransit := range 13 {
		w := richWorld()
		for i := range 12 {
			w.Nets = append(w.Nets[:i:i], toServer(w.Clients[0].Wait[i%3]))
			if i%2 == 0 {
				w.Nets[i] = toClient(1+i%3, i%4, w.Server.Log[i%4:3])
			}
		}
		w.Nets = w.Nets[:inTransit]
		for n := -2; n <= 14; n++ {
			want := copyWorld(w)
			if n >= 0 && n < inTransit {
				want.Nets = append(want.Nets[:n:n], want.Nets[n+1:]...)
			}
			if got := impl.WorldDo(w, numbered(impl.EvLose, n)); !sameWorld(got, want) {
				t.Errorf("EvLose of %d of %d leaves %v", n, inTransit, got.Nets)
			}
			if got := impl.WorldDo(w, numbered(impl.EvBring, n)); !sameLetters(got.Nets, want.Nets) {
				t.Errorf("EvBring of %d of %d leaves %v", n, inTransit, got.Nets)
			}
			want = copyWorld(w)
			if n >= 0 && n < inTransit && inTransit < 12 {
				want.Nets = append(want.Nets, w.Nets[n])
			}
			if got := impl.WorldDo(w, numbered(impl.EvTwice, n)); !sameWorld(got, want) {
				t.Errorf("EvTwice of %d of %d leaves %v", n, inTransit, got.Nets)
			}
		}
	}
}

// P90: a message that nobody can hear is in transit no more.
func TestMessagesThatNobodyHears(t *testing.T) {
	rich := richWorld()
	for what, x := range map[string]struct {
		up bool
		l  impl.Letter
	}{
		"the server is not running":          {false, toServer(entryOf(1, 4, "move 12 11 0"))},
		"the server has the entry":           {true, toServer(entryOf(1, 1, "make 11 1 0 'a'"))},
		"the server has it, not durable":     {true, toServer(entryOf(1, 3, "make 12 1 11 ''"))},
		"the client has applied too few":     {true, toClient(3, 2, rich.Server.Log[2:3])},
		"none, but it has applied too few":   {true, toClient(3, 1, nil)},
		"the client has applied all":         {true, toClient(2, 0, rich.Server.Log[:3])},
		"there are none":                     {true, toClient(1, 2, nil)},
		"a client of a server that is down ": {false, toClient(2, 3, nil)},
	} {
		w := richWorld()
		w.Server.Up = x.up
		w.Nets = append(w.Nets, x.l)
		if !impl.WorldOk(w) {
			t.Fatalf("%s: %v is invalid", what, w)
		}
		want := copyWorld(w)
		want.Nets = want.Nets[:6]
		if got := impl.WorldDo(w, numbered(impl.EvBring, 6)); !sameWorld(got, want) {
			t.Errorf("%s: there is %v", what, got)
		}
	}
	w := after(newWorld(), doing(1, textOp(11, "a")), doing(1, textOp(11, "b")), of(impl.EvSend, 1), numbered(impl.EvBring, 1))
	if len(w.Server.Log) != 0 || len(w.Nets) != 1 || len(w.Clients[0].Wait) != 2 {
		t.Errorf("an entry is heard ahead of its predecessor: %v", w)
	}
}

// P88, P89: a client hears what was sent to it while the server is not running.
func TestNewsOfAServerThatStopped(t *testing.T) {
	w := richWorld()
	w.Server.Up = false
	got := impl.WorldDo(w, numbered(impl.EvBring, 3))
	if c := got.Clients[0]; c.Seen != 3 || c.Done != 2 || len(c.Wait) != 2 || impl.TreeText(c.Base) != "1\n.11 a\n..21 c\n2\n3\n" {
		t.Errorf("the client is %v", c)
	}
	for who := 1; who <= 3; who++ {
		for n := range 5 {
			if again := impl.WorldDo(got, news(who, n)); !sameWorld(again, got) {
				t.Errorf("a server that is not running sends %v", again.Nets)
			}
		}
	}
}

func TestWorldsAreNotModified(t *testing.T) {
	t.Parallel()
	worlds := []impl.World{newWorld(), richWorld(), largeWorld(), {}}
	worlds = append(worlds, builtWorlds()[:30]...)
	for _, w := range worlds {
		untouchedWorld(t, w, func(w impl.World) {
			impl.WorldOk(w)
			impl.WorldCalm(w)
			if !impl.WorldOk(w) {
				return
			}
			for _, e := range eventsFor(w) {
				impl.WorldDo(w, e)
			}
		})
	}
	for _, w := range notWorlds() {
		untouchedWorld(t, w, func(w impl.World) {
			impl.WorldOk(w)
			impl.WorldCalm(w)
			for kind := range 12 {
				impl.WorldDo(w, impl.Event{Kind: kind, Who: 1, Op: textOp(11, "a")})
			}
		})
	}
}

// worldCalls are calls that give a run, by name: each kind of event, possible and not, and a quiet period.
func worldCalls() map[string]func(w impl.World) impl.World {
	calls := map[string]func(w impl.World) impl.World{"WorldCalm": impl.WorldCalm}
	events := []impl.Event{
		doing(1, textOp(11, "d")), doing(2, impl.Op{}), of(impl.EvSend, 1), of(impl.EvSend, 2), of(impl.EvSend, 9), of(impl.EvSync, 0), news(1, 0), news(2, 1),
		news(3, 41), numbered(impl.EvFall, 0), numbered(impl.EvFall, 1), numbered(impl.EvFall, 40), numbered(impl.EvFall, 41), of(impl.EvDown, 0), of(impl.EvRise, 0), {},
	}
	for _, n := range []int{-1, 0, 1, 2, 3, 12} {
		events = append(events, numbered(impl.EvBring, n), numbered(impl.EvLose, n), numbered(impl.EvTwice, n))
	}
	for _, e := range events {
		calls[fmt.Sprint("WorldDo of ", e)] = func(w impl.World) impl.World { return impl.WorldDo(w, e) }
	}
	return calls
}

// What comes of a run is new memory, up to its capacity, also if nothing changed.
func TestWorldsGiveNewMemory(t *testing.T) {
	t.Parallel()
	worlds := []impl.World{newWorld(), richWorld(), largeWorld(), builtWorld(5), builtWorld(6), {}}
	for _, w := range worlds {
		for what, call := range worldCalls() {
			arg := roomyWorld(w)
			first := call(arg)
			kept := copyWorld(first)
			spoilWorld(call(arg))
			if !sameWorld(arg, w) || !sameWorld(first, kept) {
				t.Fatalf("%s: after writing to one result the run is %v and the other result %v", what, arg, first)
			}
			if again := call(arg); !sameWorld(again, kept) {
				t.Fatalf("%s: after writing to one result another one is %v", what, again)
			}
			spoilWorld(arg)
			if !sameWorld(first, kept) {
				t.Fatalf("%s: after writing to the run the result is %v", what, first)
			}
		}
	}
}

// The parts of one result have no memory in common, up to their capacity.
func TestPartsOfWorldsAreApart(t *testing.T) {
	t.Parallel()
	for _, w := range []impl.World{newWorld(), richWorld(), largeWorld(), builtWorld(5), builtWorld(6)} {
		for what, call := range worldCalls() {
			result := call(w)
			checkApart(t, what, &result)
		}
	}
	fresh := impl.WorldNew()
	checkApart(t, "WorldNew", &fresh)
	played, _ := impl.WorldPlay([]impl.Event{doing(1, textOp(11, "a")), of(impl.EvSend, 1), numbered(impl.EvTwice, 0), numbered(impl.EvBring, 0), of(impl.EvSync, 0), news(1, 0), news(1, 0), numbered(impl.EvTwice, 1)})
	checkApart(t, "WorldPlay", &played)
}

func checkApart(t *testing.T, what string, w *impl.World) {
	t.Helper()
	want := copyWorld(*w)
	for _, spoilOne := range spoilers(w) {
		spoilOne()
		if !sameWorld(*w, want) {
			t.Fatalf("%s: after writing to one part there is %v, want %v", what, w, want)
		}
	}
}

// A nil slice and an empty one are the same.
func TestWorldsWithoutEntries(t *testing.T) {
	for _, l := range [][]impl.Entry{nil, {}, make([]impl.Entry, 0, 50), grownLog(1, 40)[:0]} {
		for _, nets := range [][]impl.Letter{nil, {}, make([]impl.Letter, 0, 20), richWorld().Nets[:0]} {
			w := newWorld()
			w.Server.Log = l
			w.Nets = nets
			for i := range w.Clients {
				w.Clients[i].Wait = l
			}
			if !impl.WorldOk(w) || !sameWorld(impl.WorldCalm(w), newWorld()) {
				t.Errorf("%#v is invalid, or becomes %v", w, impl.WorldCalm(w))
			}
			for _, e := range eventsFor(w) {
				if got := impl.WorldDo(w, e); !sameWorld(got, wantEvent(newWorld(), e)) {
					t.Errorf("WorldDo(%#v, %v) = %v", w, e, got)
				}
			}
			w.Nets = append(slices.Clip(nets), impl.Letter{To: 2, List: l})
			if got := impl.WorldDo(w, numbered(impl.EvBring, 0)); !impl.WorldOk(w) || !sameWorld(got, newWorld()) {
				t.Errorf("a message without entries leaves %v", got)
			}
			w.Nets = append(slices.Clip(nets), impl.Letter{List: l})
			if got := impl.WorldDo(w, numbered(impl.EvBring, 0)); impl.WorldOk(w) || !noWorld(got) {
				t.Errorf("a message without an entry to the server leaves %v", got)
			}
			w = newWorld()
			w.Clients = w.Clients[:0]
			if impl.WorldOk(w) || !noWorld(impl.WorldCalm(w)) {
				t.Errorf("a run without clients is valid")
			}
		}
	}
}

// The same call gives the same, whatever else goes on at the same time.
func TestWorldsAtOnce(t *testing.T) {
	t.Parallel()
	worlds := []impl.World{richWorld(), largeWorld()}
	want := make([]impl.World, len(worlds))
	for i, w := range worlds {
		want[i] = wantCalm(wantEvent(w, of(impl.EvSend, 1)))
	}
	var work sync.WaitGroup
	for range 16 {
		work.Add(1)
		go func() {
			defer work.Done()
			for i, w := range worlds {
				for range 20 {
					if got := impl.WorldCalm(impl.WorldDo(w, of(impl.EvSend, 1))); !sameWorld(got, want[i]) {
						t.Errorf("there is %v, want %v", got, want[i])
					}
				}
			}
		}()
	}
	work.Wait()
}

// No call leaves a goroutine behind.
func TestWorldsEndWhatTheyStart(t *testing.T) {
	before := runtime.NumGoroutine()
	w := largeWorld()
	for range 50 {
		impl.WorldCalm(impl.WorldDo(w, numbered(impl.EvTwice, 0)))
		impl.WorldPlay([]impl.Event{of(impl.EvSync, 0)})
	}
	// What has been waited for may need a moment more to be gone.
	for tries := 0; runtime.NumGoroutine() > before && tries < 100000; tries++ {
		runtime.Gosched()
	}
	if now := runtime.NumGoroutine(); now > before {
		t.Errorf("there are %d goroutines, and before there were %d", now, before)
	}
}
