package tests

import (
	"fmt"
	"math"
	"math/rand"
	"slices"
	"strconv"
	"testing"

	"loop.example/plashet/impl"
)

// sameClient says whether two clients are equal; an empty slice is equal to nil.
func sameClient(a, b impl.Client) bool {
	return a.Who == b.Who && a.Seen == b.Seen && slices.Equal(a.Base, b.Base) && slices.Equal(a.Wait, b.Wait) && a.Done == b.Done && a.Made == b.Made
}

// noClient says whether a client is the zero value.
func noClient(c impl.Client) bool {
	return sameClient(c, impl.Client{})
}

// copyClient is an equal client with other memory.
func copyClient(c impl.Client) impl.Client {
	c.Base, c.Wait = slices.Clone(c.Base), slices.Clone(c.Wait)
	return c
}

// newClient is the client at its beginning, written out.
func newClient(who int) impl.Client {
	return impl.Client{Who: who, Base: rowsOf("1", "2", "3")}
}

// isValidClient says whether a client is valid, sentence by sentence as the document does.
func isValidClient(c impl.Client) bool {
	own, client := made[c.Who]
	if !client || c.Seen < 0 || c.Seen > 40 || !isOutline(c.Base) || c.Done < 0 || c.Done > c.Seen {
		return false
	}
	if c.Done+len(c.Wait) > 40 || c.Made < 0 || c.Made > 6 {
		return false
	}
	for i, e := range c.Wait {
		if !isEntry(e) || e.Who != c.Who || e.Seq != c.Done+i+1 {
			return false
		}
		if e.Op.Kind == impl.OpMake && !slices.Contains(own[:c.Made], e.Op.Id) {
			return false
		}
	}
	return true
}

// wantShow is what ClientShow has to return for a valid client.
func wantShow(c impl.Client) []impl.Row {
	t := c.Base
	for _, e := range c.Wait {
		t = wantDo(t, e.Op)
	}
	return t
}

// wantClientDo is what ClientDo has to return for a valid client.
func wantClientDo(c impl.Client, o impl.Op) (impl.Client, bool) {
	seq := c.Done + len(c.Wait) + 1
	if seq > 40 || !impl.OpOk(o) {
		return c, false
	}
	if o.Kind == impl.OpMake {
		if c.Made == 6 || o.Id != made[c.Who][c.Made] {
			return c, false
		}
		c.Made++
	}
	c.Wait = append(slices.Clone(c.Wait), impl.Entry{Who: c.Who, Seq: seq, Op: o})
	return c, true
}

// wantDelivery is what ClientHear has to return for a valid client, valid entries and a number in the range: each entry is looked at by its index on the server.
func wantDelivery(c impl.Client, from int, l []impl.Entry) (impl.Client, bool) {
	after := copyClient(c)
	if from > c.Seen || from+len(l) > 40 {
		return c, false
	}
	for i, e := range l {
		if from+i < c.Seen {
			continue
		}
		after.Base = wantDo(after.Base, e.Op)
		after.Seen++
		if e.Who != c.Who {
			continue
		}
		if len(after.Wait) == 0 || after.Wait[0] != e {
			return c, false
		}
		after.Wait = after.Wait[1:]
		after.Done++
	}
	return after, true
}

// waitingChanges are a few that a client can have in waiting entries if it made so many rows.
func waitingChanges(who, rows int) []impl.Op {
	all := []impl.Op{textOp(11, "b"), moveOp(11, 21, 0)}
	for _, id := range made[who][:rows] {
		all = append(all, makeOp(id, 11, 0, "c"))
	}
	return all
}

// waitsOf are all lists of up to two entries with these changes, behind the first so many of a client.
func waitsOf(who, done int, changes []impl.Op) [][]impl.Entry {
	all := [][]impl.Entry{nil}
	for from := 0; from < len(all) && len(all[from]) < 2; from++ {
		for _, o := range changes {
			e := impl.Entry{Who: who, Seq: done + len(all[from]) + 1, Op: o}
			all = append(all, append(slices.Clip(all[from]), e))
		}
	}
	return all
}

// smallClients have applied up to two entries, made up to two rows, and have up to two entries waiting; their outlines are small ones.
func smallClients() []impl.Client {
	bases := [][]impl.Row{
		rowsOf("1", "2", "3"), rowsOf("1", ".11 a", "2", "3"), rowsOf("1", ".21", "..11", "2", "3"), rowsOf("1", "2", ".31 d", "3", ".12", "..21"),
	}
	var all []impl.Client
	for who := 1; who <= 3; who++ {
		for seen := range 3 {
			for done := range seen + 1 {
				for rows := range 3 {
					for _, wait := range waitsOf(who, done, waitingChanges(who, rows)) {
						for _, base := range bases {
							all = append(all, impl.Client{Who: who, Seen: seen, Base: base, Wait: wait, Done: done, Made: rows})
						}
					}
				}
			}
		}
	}
	return all
}

// clientAt is a client that has applied the first entries of a log, and has the next ones of its own there waiting, up to so many.
func clientAt(who int, l []impl.Entry, seen, waiting int) impl.Client {
	own := entriesBy(l, who)
	done := len(entriesBy(l[:seen], who))
	end := min(done+waiting, len(own))
	return impl.Client{Who: who, Seen: seen, Base: wantTree(l[:seen]), Wait: slices.Clone(own[done:end]), Done: done, Made: 6}
}

// largeClients have applied every number of entries of logs with 40, and have none, some or all of their own waiting.
func largeClients() []impl.Client {
	var all []impl.Client
	for seen := range 41 {
		for who := 1; who <= 3; who++ {
			for _, waiting := range []int{0, 1, 5, 40} {
				all = append(all, clientAt(who, grownLog(int64(seen+who), 40), seen, waiting), clientAt(who, lonelyLog(who, 40), seen, waiting))
			}
			// With nothing of its own applied, as many can wait as there can be.
			full := clientAt(who, lonelyLog(who%3+1, 40), seen, 0)
			full.Wait = lonelyLog(who, 40-seen%3)
			all = append(all, full)
		}
	}
	return all
}

// someClients are valid ones: new ones, all small ones and many large ones.
func someClients() []impl.Client {
	all := []impl.Client{newClient(1), newClient(2), newClient(3)}
	return slices.Concat(all, smallClients(), largeClients())
}

// changesFor are some for a client: of each kind, with each row that it may be its turn to make, and with the rows of others.
func changesFor(c impl.Client) []impl.Op {
	all := []impl.Op{textOp(11, "d"), textOp(36, ""), moveOp(11, 2, 0), moveOp(21, 11, 12), moveOp(16, 15, 14)}
	for i, id := range createdNumbers() {
		all = append(all, makeOp(id, rowNumbers()[i], 0, goodTexts[i%len(goodTexts)]))
	}
	return append(all, impl.Op{}, makeOp(0, 1, 0, ""), makeOp(10*c.Who+7, 1, 0, ""), textOp(1, "a"), moveOp(11, 1, 1), textOp(11, "e"))
}

// eachDo goes over clients and changes, of which some are possible.
func eachDo(call func(c impl.Client, o impl.Op)) {
	for _, c := range someClients() {
		for _, o := range changesFor(c) {
			call(c, o)
		}
	}
}

// entriesFor are some valid ones that a client may hear: those that wait, one that does not, some like the first that waits, and those of others.
func entriesFor(c impl.Client) []impl.Entry {
	all := slices.Clone(c.Wait[:min(2, len(c.Wait))])
	for who := 1; who <= 3; who++ {
		all = append(all, impl.Entry{Who: who, Seq: min(40, c.Done+1), Op: textOp(11, "dd")})
	}
	if c.Done > 0 {
		all = append(all, impl.Entry{Who: c.Who, Seq: c.Done, Op: textOp(11, "b")})
	}
	other := c.Who%3 + 1
	return append(all, impl.Entry{Who: other, Seq: 40, Op: makeOp(made[other][0], 11, 0, "")})
}

// deliveriesOf are all lists of up to so many of these entries.
func deliveriesOf(entries []impl.Entry, longest int) [][]impl.Entry {
	all := [][]impl.Entry{nil}
	for from := 0; from < len(all) && len(all[from]) < longest; from++ {
		for _, e := range entries {
			all = append(all, append(slices.Clip(all[from]), e))
		}
	}
	return all
}

// eachDelivery goes over clients and what they may hear: from before, at and after what they have applied.
func eachDelivery(call func(c impl.Client, from int, l []impl.Entry)) {
	for i, c := range smallClients() {
		longest := 2
		switch {
		case i%7 != 0:
			continue
		case i%5 == 0:
			longest = 3
		}
		for _, l := range deliveriesOf(entriesFor(c), longest) {
			for from := range c.Seen + 2 {
				call(c, from, l)
			}
		}
	}
	for i, c := range largeClients() {
		for _, l := range deliveriesOf(entriesFor(c), 1) {
			for _, from := range []int{0, c.Seen - 1, c.Seen, c.Seen + 1, 39, 40} {
				call(c, max(0, min(40, from)), l)
			}
		}
		log := grownLog(int64(c.Seen+c.Who), 40)
		if i%3 == 1 {
			log = lonelyLog(c.Who, 40)
		}
		for _, from := range []int{0, c.Seen / 2, c.Seen} {
			for _, to := range []int{from, c.Seen, c.Seen + 1, c.Seen + 5, 40} {
				call(c, from, log[from:max(from, min(40, to))])
			}
		}
	}
}

// eachHeard goes over the deliveries that succeed, with the client after them.
func eachHeard(t *testing.T, call func(c impl.Client, from int, l []impl.Entry, after impl.Client)) {
	t.Helper()
	heard := 0
	eachDelivery(func(c impl.Client, from int, l []impl.Entry) {
		if after, ok := impl.ClientHear(c, from, l); ok {
			heard++
			call(c, from, l, after)
		}
	})
	if heard < 1000 {
		t.Errorf("ClientHear succeeded only %d times", heard)
	}
}

// notClients are invalid ones, by what is wrong with them.
func notClients() map[string]impl.Client {
	all := map[string]impl.Client{"the zero value": {}}
	for name, good := range map[string]impl.Client{
		"new":     newClient(2),
		"waiting": {Who: 2, Seen: 3, Base: rowsOf("1", ".11", "2", "3"), Wait: logOf("2 3 text 11 'a'", "2 4 make 21 11 0 ''"), Done: 2, Made: 1},
		"full":    clientAt(2, lonelyLog(2, 40), 20, 20),
	} {
		breakNumbers(all, name, good)
		breakBase(all, name, good)
		breakWait(all, name, good)
	}
	return all
}

func breakNumbers(all map[string]impl.Client, name string, good impl.Client) {
	for _, n := range append([]int{-3, -1, 0, 4, 5, 12, 22}, farNumbers...) {
		bad := copyClient(good)
		bad.Who = n
		all[fmt.Sprint(name, ", Who is ", n)] = bad
	}
	if len(good.Wait) > 0 {
		bad := copyClient(good)
		bad.Who = 3
		all[name+", Who is another one"] = bad
	}
	for _, n := range append([]int{-40, -2, -1, 41, 42, 80}, farNumbers...) {
		seen, done, rows := copyClient(good), copyClient(good), copyClient(good)
		seen.Seen, done.Done, rows.Made = n, n, n
		all[fmt.Sprint(name, ", Seen is ", n)] = seen
		all[fmt.Sprint(name, ", Done is ", n)] = done
		all[fmt.Sprint(name, ", Made is ", n)] = rows
	}
	bad := copyClient(good)
	bad.Made = 7
	all[name+", Made is 7"] = bad
	for _, more := range []int{1, 2} {
		bad := copyClient(good)
		bad.Wait = nil
		bad.Done = good.Seen + more
		all[fmt.Sprint(name, ", Done is greater than Seen by ", more)] = bad
	}
	if good.Done > 0 {
		bad := copyClient(good)
		bad.Seen = good.Done - 1
		all[name+", Seen is less than Done"] = bad
	}
}

func breakBase(all map[string]impl.Client, name string, good impl.Client) {
	for what, base := range notOutlines() {
		bad := copyClient(good)
		bad.Base = base
		all[name+", Base is an outline with "+what] = bad
	}
}

func breakWait(all map[string]impl.Client, name string, good impl.Client) {
	next := good.Done + 1
	text := func(who, seq int) impl.Entry { return impl.Entry{Who: who, Seq: seq, Op: textOp(11, "a")} }
	waits := map[string][]impl.Entry{
		"another client's":       {text(1, next)},
		"another client's first": {text(3, next), text(2, next+1)},
		"another client's last":  {text(2, next), text(1, next+1)},
		"another client's 1":     {text(2, next), text(1, 1)},
		"a gap at first":         {text(2, next+1)},
		"a gap":                  {text(2, next), text(2, next+2)},
		"a repeated number":      {text(2, next), text(2, next)},
		"out of order":           {text(2, next+1), text(2, next)},
		"an applied number":      {text(2, next-1)},
		"an applied one first":   {text(2, next-1), text(2, next)},
		"backwards":              {text(2, next+1), text(2, next), text(2, next-1)},
		"the zero value":         {{}},
		"the zero value last":    {text(2, next), {}},
		"another client's row":   {{Who: 2, Seq: next, Op: makeOp(11, 1, 0, "")}},
		"an invalid change":      {{Who: 2, Seq: next, Op: textOp(11, "e")}},
		"a root's text":          {text(2, next), {Who: 2, Seq: next + 1, Op: textOp(1, "")}},
	}
	var many []impl.Entry
	for seq := next; len(many) < 41; seq++ {
		many = append(many, text(2, seq))
	}
	waits["one more than there is space for"] = many[:41-good.Done]
	waits["41"] = many
	for i, wait := range waits {
		bad := copyClient(good)
		bad.Wait = wait
		all[name+", waiting: "+i] = bad
	}
	for _, e := range notEntries() {
		bad := copyClient(good)
		bad.Done, bad.Seen, bad.Wait = 0, 5, []impl.Entry{e}
		bad.Who = max(1, min(3, e.Who))
		all[fmt.Sprint(name, ", waiting ", e)] = bad
	}
	for rows := range 6 {
		for _, id := range made[2][rows:] {
			bad := copyClient(good)
			bad.Made = rows
			bad.Wait = []impl.Entry{{Who: 2, Seq: next, Op: makeOp(id, 1, 0, "")}}
			all[fmt.Sprint(name, ", making ", id, " with Made ", rows)] = bad
			bad.Wait = []impl.Entry{text(2, next), {Who: 2, Seq: next + 1, Op: makeOp(id, 1, 0, "")}}
			all[fmt.Sprint(name, ", making ", id, " later with Made ", rows)] = bad
		}
	}
}

// untouchedClient calls with a client whose slices have spare capacity and fails if any of its memory was written to.
func untouchedClient(t *testing.T, c impl.Client, call func(c impl.Client)) {
	t.Helper()
	untouched(t, c.Base, func(base []impl.Row) {
		untouchedLog(t, c.Wait, func(wait []impl.Entry) {
			c := c
			c.Base, c.Wait = base, wait
			call(c)
		})
	})
}

// spoilRows writes to all memory of an outline, up to its capacity.
func spoilRows(rows []impl.Row) {
	whole := rows[:cap(rows)]
	for i := range whole {
		whole[i] = impl.Row{Id: -9, Depth: -9, Text: "spoiled"}
	}
}

// P61: ClientNew succeeds for exactly the client numbers; it is valid, with TreeNew and no waiting entries.
func TestClientNew(t *testing.T) {
	for _, who := range numbers() {
		c, ok := impl.ClientNew(who)
		if who < 1 || who > 3 {
			if ok || !noClient(c) {
				t.Errorf("ClientNew(%d) = %v, %v", who, c, ok)
			}
			continue
		}
		if !ok || !sameClient(c, newClient(who)) || !impl.ClientOk(c) || !slices.Equal(c.Base, impl.TreeNew()) || len(c.Wait) != 0 {
			t.Errorf("ClientNew(%d) = %v, %v", who, c, ok)
		}
		if shown := impl.ClientShow(c); impl.TreeText(shown) != "1\n2\n3\n" {
			t.Errorf("ClientNew(%d) shows %v", who, shown)
		}
	}
}

// P61: two new clients have no memory in common.
func TestClientNewIsNewEachTime(t *testing.T) {
	one, _ := impl.ClientNew(1)
	two, _ := impl.ClientNew(1)
	spoilRows(one.Base)
	spoil(one.Wait)
	three, ok := impl.ClientNew(1)
	if !ok || !sameClient(two, newClient(1)) || !sameClient(three, newClient(1)) {
		t.Errorf("after writing to one new client the others are %v and %v", two, three)
	}
}

// Two clients from their beginning on, with what each step has to give.
func TestClientsWrittenOut(t *testing.T) {
	one, two := newClient(1), newClient(2)
	do := func(c *impl.Client, change string, want bool) {
		t.Helper()
		var ok bool
		o, _ := impl.OpRead(change)
		if *c, ok = impl.ClientDo(*c, o); ok != want {
			t.Errorf("ClientDo of %s is %v", change, ok)
		}
	}
	hear := func(c *impl.Client, from int, l []impl.Entry, want bool) {
		t.Helper()
		var ok bool
		if *c, ok = impl.ClientHear(*c, from, l); ok != want {
			t.Errorf("ClientHear from %d of %v is %v", from, l, ok)
		}
	}
	check := func(c impl.Client, seen, waiting, done, rows int, base, shown string) {
		t.Helper()
		if c.Seen != seen || len(c.Wait) != waiting || c.Done != done || c.Made != rows || impl.TreeText(c.Base) != base || impl.TreeText(impl.ClientShow(c)) != shown {
			t.Errorf("the client is %v and shows %v", c, impl.ClientShow(c))
		}
	}
	do(&one, "make 12 1 0 'a'", false)
	do(&one, "make 21 1 0 'a'", false)
	check(one, 0, 0, 0, 0, "1\n2\n3\n", "1\n2\n3\n")
	do(&one, "make 11 1 0 'a'", true)
	do(&one, "make 11 1 0 'a'", false)
	do(&one, "make 12 11 0 'b'", true)
	check(one, 0, 2, 0, 2, "1\n2\n3\n", "1\n.11 a\n..12 b\n2\n3\n")
	do(&two, "make 21 11 0 'c'", true)
	check(two, 0, 1, 0, 1, "1\n2\n3\n", "1\n2\n3\n.21 c\n")
	do(&two, "text 11 'd'", true)

	server := logOf("1 1 make 11 1 0 'a'", "2 1 make 21 11 0 'c'", "2 2 text 11 'd'", "1 2 make 12 11 0 'b'")
	hear(&two, 1, server[1:], false) // a gap
	hear(&two, 0, server[:1], true)
	check(two, 1, 2, 0, 1, "1\n.11 a\n2\n3\n", "1\n.11 d\n..21 c\n2\n3\n")
	hear(&two, 0, server[:3], true)
	check(two, 3, 0, 2, 1, "1\n.11 d\n..21 c\n2\n3\n", "1\n.11 d\n..21 c\n2\n3\n")
	hear(&two, 0, server[:2], true)
	hear(&two, 2, server[2:3], true)
	check(two, 3, 0, 2, 1, "1\n.11 d\n..21 c\n2\n3\n", "1\n.11 d\n..21 c\n2\n3\n")

	hear(&one, 0, []impl.Entry{server[3]}, false) // not the first that waits
	hear(&one, 0, server[:2], true)
	check(one, 2, 1, 1, 2, "1\n.11 a\n..21 c\n2\n3\n", "1\n.11 a\n..12 b\n..21 c\n2\n3\n")
	do(&one, "move 21 12 0", true)
	check(one, 2, 2, 1, 2, "1\n.11 a\n..21 c\n2\n3\n", "1\n.11 a\n..12 b\n...21 c\n2\n3\n")
	hear(&one, 1, server[1:], true)
	check(one, 4, 1, 2, 2, "1\n.11 d\n..12 b\n..21 c\n2\n3\n", "1\n.11 d\n..12 b\n...21 c\n2\n3\n")
	hear(&one, 4, logOf("1 3 move 21 11 0"), false) // another change
	hear(&one, 4, logOf("1 3 move 21 12 0"), true)
	hear(&one, 4, logOf("1 3 move 21 12 0"), true) // it is in already
	check(one, 5, 0, 3, 2, "1\n.11 d\n..12 b\n...21 c\n2\n3\n", "1\n.11 d\n..12 b\n...21 c\n2\n3\n")
}

// P70: ClientOk is as the document has it.
func TestClientOk(t *testing.T) {
	t.Parallel()
	for _, c := range someClients() {
		if !isValidClient(c) || !impl.ClientOk(c) {
			t.Fatalf("%v is invalid", c)
		}
	}
	for what, c := range notClients() {
		if isValidClient(c) || impl.ClientOk(c) {
			t.Errorf("%s: %v is valid", what, c)
		}
	}
}

// P70: all numbers around their ranges, with up to two waiting entries.
func TestClientOkOfEveryNumber(t *testing.T) {
	t.Parallel()
	waits := [][]impl.Entry{
		nil, {entryOf(1, 1, "text 11 'a'")}, {entryOf(1, 40, "make 16 1 0 ''")}, {entryOf(3, 3, "make 31 1 0 ''"), entryOf(3, 4, "make 33 1 0 ''")},
	}
	base := impl.TreeNew()
	for who := -1; who <= 5; who++ {
		for seen := -2; seen <= 42; seen++ {
			for done := -2; done <= 42; done++ {
				for rows := -1; rows <= 8; rows++ {
					for _, wait := range waits {
						c := impl.Client{Who: who, Seen: seen, Base: base, Wait: wait, Done: done, Made: rows}
						if got := impl.ClientOk(c); got != isValidClient(c) {
							t.Fatalf("ClientOk(%v) = %v", c, got)
						}
					}
				}
			}
		}
	}
}

// P70: in a valid client, waiting entries are its own with consecutive numbers; without the last one it stays valid; with one of another client it is invalid.
func TestClientsThatWait(t *testing.T) {
	t.Parallel()
	for _, c := range someClients() {
		for i, e := range c.Wait {
			if e.Who != c.Who || e.Seq != c.Done+i+1 {
				t.Fatalf("in %v there waits %v", c, e)
			}
			shorter := c
			shorter.Wait = c.Wait[:i]
			if !impl.ClientOk(shorter) {
				t.Fatalf("%v is invalid", shorter)
			}
			foreign := copyClient(c)
			foreign.Wait[i] = impl.Entry{Who: c.Who%3 + 1, Seq: e.Seq, Op: textOp(11, "a")}
			if impl.ClientOk(foreign) {
				t.Fatalf("%v is valid", foreign)
			}
		}
		longer := copyClient(c)
		longer.Wait = append(longer.Wait, impl.Entry{Who: (c.Who+1)%3 + 1, Seq: min(40, c.Done+len(c.Wait)+1), Op: textOp(11, "a")})
		if impl.ClientOk(longer) {
			t.Fatalf("%v is valid", longer)
		}
	}
}

// P70: what is full, what is too full, and rows that may be created more than once or in any order.
func TestClientOkWrittenOut(t *testing.T) {
	base := rowsOf("1", "2", "3")
	one := lonelyLog(1, 41)
	for _, c := range []struct {
		what string
		c    impl.Client
		want bool
	}{
		{"new", newClient(3), true},
		{"all applied, none its own", impl.Client{Who: 1, Seen: 40, Base: base}, true},
		{"all applied, all its own", impl.Client{Who: 1, Seen: 40, Base: base, Done: 40}, true},
		{"41 applied", impl.Client{Who: 1, Seen: 41, Base: base}, false},
		{"more its own than applied", impl.Client{Who: 1, Seen: 3, Base: base, Done: 4}, false},
		{"40 waiting", impl.Client{Who: 1, Base: base, Wait: one[:40], Made: 6}, true},
		{"41 waiting", impl.Client{Who: 1, Base: base, Wait: one, Made: 6}, false},
		{"40 applied and 40 waiting", impl.Client{Who: 1, Seen: 40, Base: base, Wait: one[:40], Made: 6}, true},
		{"39 and 1", impl.Client{Who: 1, Seen: 40, Base: base, Wait: one[39:40], Done: 39, Made: 6}, true},
		{"39 and 2", impl.Client{Who: 1, Seen: 40, Base: base, Wait: one[39:], Done: 39, Made: 6}, false},
		{"40 and 1", impl.Client{Who: 1, Seen: 40, Base: base, Wait: one[40:], Done: 40, Made: 6}, false},
		{"6 rows made", impl.Client{Who: 1, Base: base, Made: 6}, true},
		{"7 rows made", impl.Client{Who: 1, Base: base, Made: 7}, false},
		{"a row made that is not made", impl.Client{Who: 1, Base: base, Wait: logOf("1 1 make 11 1 0 ''")}, false},
		{"a row made that is made", impl.Client{Who: 1, Base: base, Wait: logOf("1 1 make 11 1 0 ''"), Made: 1}, true},
		{"the row after it", impl.Client{Who: 1, Base: base, Wait: logOf("1 1 make 12 1 0 ''"), Made: 1}, false},
		{"a row made twice", impl.Client{Who: 1, Base: base, Wait: logOf("1 1 make 11 1 0 ''", "1 2 make 11 1 0 ''"), Made: 1}, true},
		{"rows made backwards", impl.Client{Who: 3, Base: base, Wait: logOf("3 1 make 32 1 0 ''", "3 2 make 31 1 0 ''"), Made: 2}, true},
		{"a row of another, moved", impl.Client{Who: 1, Base: base, Wait: logOf("1 1 move 36 26 16", "1 2 text 36 ''")}, true},
		{"an own row that is not made, moved", impl.Client{Who: 1, Base: base, Wait: logOf("1 1 move 16 1 0", "1 2 text 16 'a'")}, true},
		{"any outline", impl.Client{Who: 1, Base: chain(impl.RootTrash)}, true},
		{"no outline", impl.Client{Who: 1}, false},
	} {
		if got := impl.ClientOk(c.c); got != c.want {
			t.Errorf("%s: ClientOk is %v", c.what, got)
		}
	}
}

// P62, P63: ClientDo is as the document has it, and is each of its results often.
func TestClientDoAsStated(t *testing.T) {
	t.Parallel()
	seen := map[bool]int{}
	eachDo(func(c impl.Client, o impl.Op) {
		got, ok := impl.ClientDo(c, o)
		want, wantOk := wantClientDo(c, o)
		if ok != wantOk || !sameClient(got, want) {
			t.Fatalf("ClientDo(%v, %v) = %v, %v, want %v, %v", c, o, got, ok, want, wantOk)
		}
		seen[ok]++
	})
	if seen[true] < 1000 || seen[false] < 1000 {
		t.Errorf("ClientDo succeeded %d times and failed %d times", seen[true], seen[false])
	}
}

// P62: what is shown changes at once; the entry is the last that waits, with the next number, and what is applied stays.
func TestClientDoAtOnce(t *testing.T) {
	t.Parallel()
	eachDo(func(c impl.Client, o impl.Op) {
		after, ok := impl.ClientDo(c, o)
		if !impl.ClientOk(after) {
			t.Fatalf("ClientDo(%v, %v) = %v", c, o, after)
		}
		if !ok {
			return
		}
		if shown, want := impl.ClientShow(after), impl.OpDo(impl.ClientShow(c), o); !slices.Equal(shown, want) {
			t.Fatalf("after ClientDo(%v, %v) there is shown %v, want %v", c, o, shown, want)
		}
		n := len(c.Wait)
		e := impl.Entry{Who: c.Who, Seq: c.Done + n + 1, Op: o}
		if len(after.Wait) != n+1 || after.Wait[n] != e || !slices.Equal(after.Wait[:n], c.Wait) {
			t.Fatalf("after ClientDo(%v, %v) there waits %v", c, o, after.Wait)
		}
		if after.Who != c.Who || after.Seen != c.Seen || after.Done != c.Done || !slices.Equal(after.Base, c.Base) {
			t.Fatalf("ClientDo(%v, %v) = %v", c, o, after)
		}
	})
}

// P63: of all numbers only that of the next row can be made, up to the sixth, and Made counts it.
func TestClientDoMakesTheNextRow(t *testing.T) {
	t.Parallel()
	for who, own := range made {
		for rows := range 7 {
			c := newClient(who)
			c.Made = rows
			for _, id := range numbers() {
				want := rows < 6 && id == own[rows]
				after, ok := impl.ClientDo(c, makeOp(id, 1, 0, "a"))
				if ok != want || !want && !sameClient(after, c) || want && (after.Made != rows+1 || len(after.Wait) != 1) {
					t.Fatalf("with Made %d, client %d makes %d: %v, %v", rows, who, id, after, ok)
				}
			}
			for _, o := range []impl.Op{textOp(own[0], "a"), moveOp(own[5], 1, 0), textOp(11, ""), moveOp(36, 2, 11)} {
				if after, ok := impl.ClientDo(c, o); !ok || after.Made != rows {
					t.Errorf("after %v of %v there is %v, %v", o, c, after, ok)
				}
			}
		}
	}
}

// P63: a row that is in the outline already is made if it is the next one of the client, for what counts is Made.
func TestClientDoMakesByNumberOnly(t *testing.T) {
	c := impl.Client{Who: 1, Base: rowsOf("1", ".11 a", ".12 b", "2", "3"), Made: 1}
	if after, ok := impl.ClientDo(c, makeOp(11, 1, 0, "a")); ok || !sameClient(after, c) {
		t.Errorf("the row that was made is made again: %v", after)
	}
	after, ok := impl.ClientDo(c, makeOp(12, 2, 0, "d"))
	if !ok || after.Made != 2 || len(after.Wait) != 1 || impl.TreeText(impl.ClientShow(after)) != "1\n.11 a\n.12 b\n2\n3\n" {
		t.Errorf("the next row is not made: %v, %v", after, ok)
	}
}

// P63: there is space up to 40 entries, applied or waiting; only its own count.
func TestClientDoWithSpace(t *testing.T) {
	t.Parallel()
	for who := 1; who <= 3; who++ {
		for seen := range 41 {
			for done := range seen + 1 {
				for waiting := range 41 - done {
					c := impl.Client{Who: who, Seen: seen, Base: impl.TreeNew(), Done: done, Made: 3}
					for i := range waiting {
						c.Wait = append(c.Wait, impl.Entry{Who: who, Seq: done + 1 + i, Op: textOp(11, "a")})
					}
					if left := 40 - done - waiting; left > 2 && left < 38 {
						continue
					}
					checkSpace(t, c, done+waiting < 40)
				}
			}
		}
	}
}

func checkSpace(t *testing.T, c impl.Client, space bool) {
	t.Helper()
	for _, o := range []impl.Op{makeOp(made[c.Who][3], 1, 0, "a"), textOp(11, "b"), moveOp(21, 1, 0)} {
		after, ok := impl.ClientDo(c, o)
		if ok != space || !space && !sameClient(after, c) || space && (len(after.Wait) != len(c.Wait)+1 || after.Wait[len(c.Wait)].Seq != c.Done+len(c.Wait)+1) {
			t.Fatalf("ClientDo(%v, %v) = %v, %v", c, o, after, ok)
		}
	}
}

// P62: no change comes of an invalid one; the client is as it was.
func TestClientDoOfAnInvalidChange(t *testing.T) {
	clients := []impl.Client{newClient(1), newClient(3), clientAt(1, grownLog(3, 40), 9, 4), clientAt(1, lonelyLog(1, 40), 20, 20)}
	for what, o := range notChanges() {
		for _, c := range clients {
			if after, ok := impl.ClientDo(c, o); ok || !sameClient(after, c) {
				t.Errorf("%s: ClientDo(%v, %v) = %v, %v", what, c, o, after, ok)
			}
		}
	}
}

// P71: after ClientDo twice, the second entry waits after the first, and both are shown in this order.
func TestClientDoTwice(t *testing.T) {
	t.Parallel()
	for i, c := range someClients() {
		if i%5 != 0 {
			continue
		}
		n := len(c.Wait)
		for _, one := range changesFor(c) {
			first, ok := impl.ClientDo(c, one)
			if !ok {
				continue
			}
			for _, two := range changesFor(c) {
				second, ok := impl.ClientDo(first, two)
				if !ok {
					continue
				}
				want := []impl.Entry{{Who: c.Who, Seq: c.Done + n + 1, Op: one}, {Who: c.Who, Seq: c.Done + n + 2, Op: two}}
				if !slices.Equal(second.Wait, slices.Concat(c.Wait, want)) {
					t.Fatalf("after %v and %v of %v there waits %v", one, two, c, second.Wait)
				}
				if shown := impl.ClientShow(second); !slices.Equal(shown, wantDo(wantDo(impl.ClientShow(c), one), two)) {
					t.Fatalf("after %v and %v of %v there is shown %v", one, two, c, shown)
				}
			}
		}
	}
}

// P71: in the other order there would be another outline.
func TestClientDoInOrder(t *testing.T) {
	for _, c := range []struct {
		one, two, want string
	}{
		{"make 11 1 0 'a'", "make 12 11 0 'b'", "1\n.11 a\n..12 b\n.21\n.22\n2\n3\n"},
		{"make 11 1 0 'a'", "make 12 1 0 'b'", "1\n.12 b\n.11 a\n.21\n.22\n2\n3\n"},
		{"make 11 22 0 'a'", "text 11 'b'", "1\n.21\n.22\n..11 b\n2\n3\n"},
		{"text 11 'b'", "make 11 22 0 'a'", "1\n.21\n.22\n..11 a\n2\n3\n"},
		{"text 21 'a'", "text 21 'b'", "1\n.21 b\n.22\n2\n3\n"},
		{"text 21 'b'", "text 21 'a'", "1\n.21 a\n.22\n2\n3\n"},
		{"move 21 22 0", "move 22 21 0", "1\n.22\n..21\n2\n3\n"},
		{"move 22 21 0", "move 21 22 0", "1\n.21\n..22\n2\n3\n"},
	} {
		client := impl.Client{Who: 1, Base: rowsOf("1", ".21", ".22", "2", "3")}
		for _, text := range []string{c.one, c.two} {
			o, _ := impl.OpRead(text)
			var ok bool
			if client, ok = impl.ClientDo(client, o); !ok {
				t.Fatalf("%s fails", text)
			}
		}
		if got := impl.TreeText(impl.ClientShow(client)); got != c.want {
			t.Errorf("after %s and %s there is shown %q, want %q", c.one, c.two, got, c.want)
		}
	}
}

// P64: ClientShow is OpDo of each waiting entry, in order, on Base, and a valid outline that has every row of Base.
func TestClientShowAsStated(t *testing.T) {
	t.Parallel()
	for _, c := range someClients() {
		shown := impl.ClientShow(c)
		if want := wantShow(c); !slices.Equal(shown, want) {
			t.Fatalf("ClientShow(%v) = %v, want %v", c, shown, want)
		}
		step := c.Base
		for _, e := range c.Wait {
			step = impl.OpDo(step, e.Op)
		}
		if !slices.Equal(shown, step) || !isOutline(shown) {
			t.Fatalf("ClientShow(%v) = %v", c, shown)
		}
		for _, r := range c.Base {
			if place(shown, r.Id) < 0 {
				t.Fatalf("ClientShow(%v) = %v has lost row %d", c, shown, r.Id)
			}
		}
	}
}

// P64: with no waiting entry Base is shown, whatever it is.
func TestClientShowOfNothingWaiting(t *testing.T) {
	for i, base := range someOutlines() {
		c := impl.Client{Who: 1 + i%3, Seen: i % 41, Base: base, Done: i % 41 / 2, Made: i % 7}
		if shown := impl.ClientShow(c); !slices.Equal(shown, base) {
			t.Fatalf("ClientShow(%v) = %v", c, shown)
		}
	}
}

// P64: several entries that depend on each other, on top of what others did.
func TestClientShowWrittenOut(t *testing.T) {
	for _, c := range []struct {
		base []impl.Row
		wait []impl.Entry
		want string
	}{
		{rowsOf("1", "2", "3"), nil, "1\n2\n3\n"},
		{rowsOf("1", "2", "3"), logOf("1 1 make 11 1 0 'a'", "1 2 make 12 11 0 'b'", "1 3 make 13 11 12 'c'"), "1\n.11 a\n..12 b\n..13 c\n2\n3\n"},
		{rowsOf("1", "2", "3"), logOf("1 1 make 12 11 0 'b'", "1 2 make 11 1 0 'a'", "1 3 move 12 11 0"), "1\n.11 a\n..12 b\n2\n3\n"},
		{rowsOf("1", "2", "3"), logOf("1 1 make 11 1 0 'a'", "1 2 text 11 'b'", "1 3 move 11 2 0", "1 4 text 11 'c'"), "1\n2\n.11 c\n3\n"},
		{rowsOf("1", "2", "3"), logOf("1 1 text 21 'a'", "1 2 move 21 1 0"), "1\n2\n3\n"},
		{rowsOf("1", ".21 b", "2", "3"), logOf("1 1 make 11 21 0 ''", "1 2 move 21 11 0", "1 3 move 11 1 0", "1 4 move 21 11 0"), "1\n.11\n..21 b\n2\n3\n"},
		{rowsOf("1", "2", "3", ".11 d"), logOf("1 1 make 11 1 0 'a'", "1 2 make 12 11 0 ''"), "1\n2\n3\n.11 d\n..12\n"},
		{rowsOf("1", "2", ".21", "..31", "3"), logOf("1 1 make 11 31 0 'a'", "1 2 move 31 1 0"), "1\n.31\n..11 a\n2\n.21\n3\n"},
	} {
		client := impl.Client{Who: 1, Base: c.base, Wait: c.wait, Made: 6}
		if got := impl.TreeText(impl.ClientShow(client)); got != c.want {
			t.Errorf("%v shows %q, want %q", client, got, c.want)
		}
	}
}

// P73: ClientShow has each row of Base and each row that a waiting entry creates, and no other.
func TestClientShowHasTheRows(t *testing.T) {
	t.Parallel()
	for _, c := range someClients() {
		rows := ids(c.Base)
		for _, e := range c.Wait {
			if e.Op.Kind == impl.OpMake {
				rows = append(rows, e.Op.Id)
			}
		}
		slices.Sort(rows)
		if shown := impl.ClientShow(c); !slices.Equal(ids(shown), slices.Compact(rows)) {
			t.Fatalf("ClientShow(%v) = %v", c, shown)
		}
	}
}

// P65: ClientHear is as the document has it, and is each of its results often.
func TestClientHearAsStated(t *testing.T) {
	t.Parallel()
	seen := map[bool]int{}
	eachDelivery(func(c impl.Client, from int, l []impl.Entry) {
		got, ok := impl.ClientHear(c, from, l)
		want, wantOk := wantDelivery(c, from, l)
		if ok != wantOk || !sameClient(got, want) {
			t.Fatalf("ClientHear(%v, %d, %v) = %v, %v, want %v, %v", c, from, l, got, ok, want, wantOk)
		}
		if !impl.ClientOk(got) {
			t.Fatalf("ClientHear(%v, %d, %v) = %v", c, from, l, got)
		}
		seen[ok]++
	})
	if seen[true] < 1000 || seen[false] < 1000 {
		t.Errorf("ClientHear succeeded %d times and failed %d times", seen[true], seen[false])
	}
}

// P65: after a successful ClientHear, at least the delivered entries are applied; Base is OpDo of each new one; own ones no longer wait.
func TestClientHearApplies(t *testing.T) {
	t.Parallel()
	eachHeard(t, func(c impl.Client, from int, l []impl.Entry, after impl.Client) {
		fresh := l[min(c.Seen-from, len(l)):]
		base := c.Base
		for _, e := range fresh {
			base = impl.OpDo(base, e.Op)
		}
		own := len(entriesBy(fresh, c.Who))
		if after.Seen < from+len(l) || after.Seen != c.Seen+len(fresh) || !slices.Equal(after.Base, base) {
			t.Fatalf("ClientHear(%v, %d, %v) = %v", c, from, l, after)
		}
		if !slices.Equal(after.Wait, c.Wait[own:]) || after.Done != c.Done+own || after.Made != c.Made || after.Who != c.Who {
			t.Fatalf("ClientHear(%v, %d, %v) = %v", c, from, l, after)
		}
		for _, e := range fresh {
			if slices.Contains(after.Wait, e) {
				t.Fatalf("after ClientHear(%v, %d, %v) there still waits %v", c, from, l, e)
			}
		}
	})
}

// P66: after ClientHear, the same delivery succeeds and changes nothing, and so does any part of it.
func TestClientHearsOnce(t *testing.T) {
	t.Parallel()
	eachHeard(t, func(c impl.Client, from int, l []impl.Entry, after impl.Client) {
		if again, ok := impl.ClientHear(after, from, l); !ok || !sameClient(again, after) {
			t.Fatalf("ClientHear(%v, %d, %v) = %v, %v", after, from, l, again, ok)
		}
		for _, n := range []int{0, len(l) / 2, len(l)} {
			first, ok := impl.ClientHear(after, from, l[:n])
			last, okToo := impl.ClientHear(after, from+n, l[n:])
			if !ok || !okToo || !sameClient(first, after) || !sameClient(last, after) {
				t.Fatalf("of ClientHear(%v, %d, %v) the parts give %v and %v", after, from, l, first, last)
			}
		}
	})
}

// P66: what is in already is skipped without a look at it, so that it may be any valid entries.
func TestClientHearSkips(t *testing.T) {
	c := clientAt(1, logOf("1 1 make 11 1 0 'a'", "2 1 text 11 'b'", "1 2 text 11 'c'", "1 3 text 11 'd'"), 3, 9)
	others := logOf("1 1 text 11 'd'", "1 1 text 11 'd'", "1 9 make 16 1 0 ''")
	for from := range 4 {
		if after, ok := impl.ClientHear(c, from, others[from:]); !ok || !sameClient(after, c) {
			t.Errorf("from %d there comes %v, %v", from, after, ok)
		}
		want := copyClient(c)
		want.Seen, want.Done, want.Wait, want.Base = 4, 3, nil, rowsOf("1", ".11 d", "2", "3")
		if after, ok := impl.ClientHear(c, from, append(slices.Clone(others[from:]), c.Wait[0])); !ok || !sameClient(after, want) {
			t.Errorf("from %d with a new one there comes %v, %v", from, after, ok)
		}
		if after, ok := impl.ClientHear(c, from, append(slices.Clone(others[from:]), others[0])); ok || !sameClient(after, c) {
			t.Errorf("from %d with one that does not wait there comes %v, %v", from, after, ok)
		}
	}
}

// P67: ClientHear of some entries and then of the following ones equals ClientHear of all.
func TestClientHearInTwoParts(t *testing.T) {
	t.Parallel()
	eachHeard(t, func(c impl.Client, from int, l []impl.Entry, after impl.Client) {
		for n := range len(l) + 1 {
			first, ok := impl.ClientHear(c, from, l[:n])
			second, okToo := impl.ClientHear(first, from+n, l[n:])
			if !ok || !okToo || !sameClient(second, after) {
				t.Fatalf("ClientHear(%v, %d, %v) is %v, but cut at %d it is %v", c, from, l, after, n, second)
			}
		}
	})
}

// P67: in parts that overlap, and in parts of every length.
func TestClientHearInManyParts(t *testing.T) {
	t.Parallel()
	for seed := range int64(12) {
		l := grownLog(seed, 40)
		who := 1 + int(seed)%3
		start := clientAt(who, l, 0, 40)
		want, ok := impl.ClientHear(start, 0, l)
		if !ok || !slices.Equal(want.Base, impl.LogTree(l)) || want.Seen != 40 || len(want.Wait) != 0 {
			t.Fatalf("ClientHear(%v, 0, %v) = %v, %v", start, l, want, ok)
		}
		for length := 1; length <= 40; length++ {
			for back := range min(length, 3) {
				c := start
				for c.Seen < 40 {
					from := max(0, c.Seen-back)
					var ok bool
					if c, ok = impl.ClientHear(c, from, l[from:min(40, from+length)]); !ok {
						t.Fatalf("parts of %d fail from %d on", length, from)
					}
				}
				if !sameClient(c, want) {
					t.Fatalf("in parts of %d, %d back, there comes %v", length, back, c)
				}
			}
		}
	}
}

// P67: if a later entry fails, none of the earlier ones is applied.
func TestClientHearAllOrNothing(t *testing.T) {
	t.Parallel()
	for seed := range int64(30) {
		l := grownLog(seed, 39)
		who := 1 + int(seed)%3
		for _, seen := range []int{0, 1, 20, 38} {
			c := clientAt(who, l, seen, 40)
			bad := impl.Entry{Who: who, Seq: 40, Op: textOp(11, "dcba")}
			for from := range seen + 1 {
				if after, ok := impl.ClientHear(c, from, append(slices.Clone(l[from:]), bad)); ok || !sameClient(after, c) {
					t.Fatalf("ClientHear(%v, %d, ...) = %v, %v", c, from, after, ok)
				}
			}
		}
	}
}

// P68: ClientHear of entries after more than have been applied fails and changes nothing, also if there are none.
func TestClientHearAfterAGap(t *testing.T) {
	t.Parallel()
	for _, c := range someClients() {
		lists := [][]impl.Entry{nil, {}, entriesFor(c)[:1], c.Wait[:min(1, len(c.Wait))], c.Wait}
		for _, from := range []int{c.Seen + 1, c.Seen + 2, 39, 40} {
			if from <= c.Seen || from > 40 {
				continue
			}
			for _, l := range lists {
				if after, ok := impl.ClientHear(c, from, l); ok || !sameClient(after, c) {
					t.Fatalf("ClientHear(%v, %d, %v) = %v, %v", c, from, l, after, ok)
				}
			}
		}
	}
}

// P69: after ClientHear of exactly all waiting entries, what is shown is unchanged, nothing waits, and Base is what is shown.
func TestClientHearOfAllThatWaits(t *testing.T) {
	t.Parallel()
	for _, c := range someClients() {
		after, ok := impl.ClientHear(c, c.Seen, c.Wait)
		if c.Seen+len(c.Wait) > 40 {
			if ok || !sameClient(after, c) {
				t.Fatalf("ClientHear of all that waits in %v = %v, %v", c, after, ok)
			}
			continue
		}
		shown := impl.ClientShow(c)
		if !ok || len(after.Wait) != 0 || !slices.Equal(after.Base, shown) || !slices.Equal(impl.ClientShow(after), shown) {
			t.Fatalf("ClientHear of all that waits in %v = %v, %v", c, after, ok)
		}
		if after.Done != c.Done+len(c.Wait) || after.Seen != c.Seen+len(c.Wait) || after.Made != c.Made {
			t.Fatalf("ClientHear of all that waits in %v = %v", c, after)
		}
	}
}

// P72: ClientHear by a new client of a log of others gives LogTree of it.
func TestNewClientHearsALog(t *testing.T) {
	t.Parallel()
	for _, l := range someLogs() {
		for who := 1; who <= 3; who++ {
			c, _ := impl.ClientNew(who)
			after, ok := impl.ClientHear(c, 0, l)
			if len(entriesBy(l, who)) > 0 {
				// A new client has made no entry that it could hear.
				if ok || !sameClient(after, c) {
					t.Fatalf("client %d hears %v and becomes %v, %v", who, l, after, ok)
				}
				continue
			}
			tree := impl.LogTree(l)
			if !ok || !slices.Equal(after.Base, tree) || !slices.Equal(impl.ClientShow(after), tree) || after.Seen != len(l) || after.Done != 0 || after.Made != 0 {
				t.Fatalf("client %d hears %v and becomes %v, %v", who, l, after, ok)
			}
		}
	}
}

// P74: after ClientHear of entries of others only, the same entries wait, and what is shown has all previous rows.
func TestClientHearOfOthers(t *testing.T) {
	t.Parallel()
	heard := 0
	check := func(c impl.Client, l []impl.Entry) {
		after, ok := impl.ClientHear(c, c.Seen, l)
		if !ok || !slices.Equal(after.Wait, c.Wait) || after.Done != c.Done || after.Made != c.Made {
			t.Fatalf("ClientHear(%v, %d, %v) = %v, %v", c, c.Seen, l, after, ok)
		}
		shown := impl.ClientShow(after)
		for _, r := range impl.ClientShow(c) {
			if place(shown, r.Id) < 0 {
				t.Fatalf("ClientHear(%v, %d, %v) shows %v, without row %d", c, c.Seen, l, shown, r.Id)
			}
		}
		heard++
	}
	for i, c := range someClients() {
		l := entriesBy(grownLog(int64(i), 40), c.Who%3+1)
		for _, n := range []int{0, 1, len(l) / 2, len(l)} {
			if c.Seen+n <= 40 {
				check(c, l[:n])
			}
		}
	}
	if heard < 1000 {
		t.Errorf("only %d deliveries", heard)
	}
}

// P65, P66, P68: each case that the document names, from one client.
func TestClientHearWrittenOut(t *testing.T) {
	applied := logOf("2 1 make 21 1 0 'a'", "1 1 text 21 'b'")
	wait := logOf("1 2 make 11 21 0 'c'", "1 3 text 11 'd'")
	other := logOf("2 2 text 21 'd'", "3 1 move 11 1 0")
	c := impl.Client{Who: 1, Seen: 2, Base: rowsOf("1", ".21 b", "2", "3"), Wait: wait, Done: 1, Made: 1}
	all := func(lists ...[]impl.Entry) []impl.Entry { return slices.Concat(lists...) }
	for _, x := range []struct {
		what       string
		from       int
		l          []impl.Entry
		ok         bool
		seen, done int
		base       string
	}{
		{"none, from the beginning", 0, nil, true, 2, 1, "1\n.21 b\n2\n3\n"},
		{"none, from Seen", 2, []impl.Entry{}, true, 2, 1, "1\n.21 b\n2\n3\n"},
		{"none, after a gap", 3, nil, false, 2, 1, ""},
		{"none, far off", 40, nil, false, 2, 1, ""},
		{"some that are in", 0, applied[:1], true, 2, 1, "1\n.21 b\n2\n3\n"},
		{"another one that is in", 1, applied[1:], true, 2, 1, "1\n.21 b\n2\n3\n"},
		{"all that are in", 0, applied, true, 2, 1, "1\n.21 b\n2\n3\n"},
		{"an own one", 2, wait[:1], true, 3, 2, "1\n.21 b\n..11 c\n2\n3\n"},
		{"all own ones", 2, wait, true, 4, 3, "1\n.21 b\n..11 d\n2\n3\n"},
		{"all own ones, with those that are in", 0, all(applied, wait), true, 4, 3, "1\n.21 b\n..11 d\n2\n3\n"},
		{"all own ones, with one that is in", 1, all(applied[1:], wait), true, 4, 3, "1\n.21 b\n..11 d\n2\n3\n"},
		{"own ones after a gap", 3, wait, false, 2, 1, ""},
		{"own ones turned around", 2, all(wait[1:], wait[:1]), false, 2, 1, ""},
		{"the second own one", 2, wait[1:], false, 2, 1, ""},
		{"an own one twice", 2, all(wait[:1], wait[:1]), false, 2, 1, ""},
		{"own ones and one more", 2, all(wait, logOf("1 4 text 11 'a'")), false, 2, 1, ""},
		{"an own one with another text", 2, logOf("1 2 make 11 21 0 'd'"), false, 2, 1, ""},
		{"an own one with another place", 2, logOf("1 2 make 11 1 0 'c'"), false, 2, 1, ""},
		{"an own one with another sibling", 2, logOf("1 2 make 11 21 12 'c'"), false, 2, 1, ""},
		{"an own one with another kind", 2, logOf("1 2 text 11 'c'"), false, 2, 1, ""},
		{"an own one with another number", 2, logOf("1 3 make 11 21 0 'c'"), false, 2, 1, ""},
		{"an own one that is in, as new", 2, applied[1:], false, 2, 1, ""},
		{"others", 2, other, true, 4, 1, "1\n.21 d\n2\n3\n"},
		{"others before own ones", 2, all(other, wait), true, 6, 3, "1\n.21 d\n..11 d\n2\n3\n"},
		{"others between own ones", 2, all(wait[:1], other, wait[1:]), true, 6, 3, "1\n.11 d\n.21 d\n2\n3\n"},
		{"others after own ones", 2, all(wait, other), true, 6, 3, "1\n.11 d\n.21 d\n2\n3\n"},
		{"others before a wrong own one", 2, all(other, wait[1:]), false, 2, 1, ""},
		{"others that are not in order", 2, logOf("2 9 text 21 'd'", "2 9 text 21 'c'", "3 1 text 31 'c'"), true, 5, 1, "1\n.21 c\n2\n3\n"},
	} {
		want := copyClient(c)
		if x.ok {
			want.Seen, want.Done, want.Wait = x.seen, x.done, wait[x.done-1:]
		}
		got, ok := impl.ClientHear(c, x.from, x.l)
		if x.base != "" {
			want.Base = got.Base
		}
		if ok != x.ok || !sameClient(got, want) || x.base != "" && impl.TreeText(got.Base) != x.base {
			t.Errorf("%s: ClientHear from %d of %v = %v, %v", x.what, x.from, x.l, got, ok)
		}
	}
}

// P65, P68: up to 40 entries of the server there are, and none beyond.
func TestClientHearUpToTheLimit(t *testing.T) {
	t.Parallel()
	for who := 1; who <= 3; who++ {
		l := lonelyLog(who%3+1, 40)
		long := append(slices.Clone(l), l...)
		for seen := range 41 {
			c := clientAt(who, l, seen, 0)
			for from := range 41 {
				for _, n := range []int{0, 39 - from, 40 - from, 41 - from, 42 - from, 40, 41, 80} {
					if n < 0 {
						continue
					}
					want := from <= seen && from+n <= 40
					if after, ok := impl.ClientHear(c, from, long[:n]); ok != want || !want && !sameClient(after, c) || want && after.Seen != max(seen, from+n) {
						t.Fatalf("with Seen %d, ClientHear from %d of %d entries = %v, %v", seen, from, n, after, ok)
					}
				}
			}
		}
	}
}

// badFroms are numbers that ClientHear does not take.
func badFroms() []int {
	return append([]int{-1, -2, -40, 41, 42, 80, math.MaxInt - 40}, farNumbers...)
}

// P65: nothing comes of a number out of the range, or of an invalid entry, wherever it stands and whatever else is wrong.
func TestClientHearOfInvalidArguments(t *testing.T) {
	t.Parallel()
	log := lonelyLog(2, 40)
	clients := []impl.Client{newClient(1), clientAt(1, log, 5, 0), clientAt(2, log, 5, 5), clientAt(2, log, 40, 0), clientAt(2, log, 0, 40)}
	for _, c := range clients {
		for _, from := range badFroms() {
			for _, l := range [][]impl.Entry{nil, {}, log[:1], log, c.Wait, append(slices.Clone(log), log...)} {
				if got, ok := impl.ClientHear(c, from, l); ok || !noClient(got) {
					t.Errorf("ClientHear(%v, %d, %v) = %v, %v", c, from, l, got, ok)
				}
			}
		}
		for what, e := range notEntries() {
			for _, l := range [][]impl.Entry{{e}, append([]impl.Entry{e}, log[:3]...), append(slices.Clone(log[:3]), e), append(slices.Clone(log), e), append(append(slices.Clone(log), log...), e)} {
				for _, from := range []int{0, c.Seen, min(40, c.Seen+1), 40, 41} {
					if got, ok := impl.ClientHear(c, from, l); ok || !noClient(got) {
						t.Fatalf("%s: ClientHear(%v, %d, %v) = %v, %v", what, c, from, l, got, ok)
					}
				}
			}
		}
	}
}

// P62 to P65: nothing comes of a client that is invalid.
func TestNothingComesOfAnInvalidClient(t *testing.T) {
	t.Parallel()
	entries := []impl.Entry{entryOf(1, 1, "text 11 'a'"), entryOf(2, 1, "text 11 'a'"), entryOf(3, 1, "make 31 1 0 ''")}
	changes := []impl.Op{textOp(11, "a"), moveOp(11, 1, 0), makeOp(11, 1, 0, ""), makeOp(21, 1, 0, ""), makeOp(22, 1, 0, ""), {}}
	full, tooLong := grownLog(1, 40), grownLog(1, 41)
	for what, c := range notClients() {
		if impl.ClientOk(c) {
			t.Errorf("%s: %v is valid", what, c)
		}
		if shown := impl.ClientShow(c); len(shown) != 0 {
			t.Errorf("%s: there is shown %v", what, shown)
		}
		for _, o := range changes {
			if got, ok := impl.ClientDo(c, o); ok || !noClient(got) {
				t.Errorf("%s: ClientDo of %v = %v, %v", what, o, got, ok)
			}
		}
		for _, from := range []int{-1, 0, 1, 2, c.Seen, c.Seen + 1, 40, 41} {
			for _, l := range [][]impl.Entry{nil, {}, entries, c.Wait, full, tooLong} {
				if got, ok := impl.ClientHear(c, from, l); ok || !noClient(got) {
					t.Errorf("%s: ClientHear from %d of %v = %v, %v", what, from, l, got, ok)
				}
			}
		}
	}
}

// A nil slice and an empty one are the same.
func TestClientsWithoutEntries(t *testing.T) {
	for _, wait := range [][]impl.Entry{nil, {}, make([]impl.Entry, 0, 50), grownLog(1, 40)[:0]} {
		c := newClient(1)
		c.Wait = wait
		if !impl.ClientOk(c) || !slices.Equal(impl.ClientShow(c), impl.TreeNew()) {
			t.Errorf("%#v is invalid, or shows %v", c, impl.ClientShow(c))
		}
		if got, ok := impl.ClientDo(c, textOp(11, "a")); !ok || !slices.Equal(got.Wait, logOf("1 1 text 11 'a'")) {
			t.Errorf("ClientDo(%#v) = %v, %v", c, got, ok)
		}
		for _, l := range [][]impl.Entry{nil, {}, make([]impl.Entry, 0, 50), grownLog(1, 40)[:0]} {
			if got, ok := impl.ClientHear(c, 0, l); !ok || !sameClient(got, newClient(1)) {
				t.Errorf("ClientHear(%#v, 0, %#v) = %v, %v", c, l, got, ok)
			}
			if got, ok := impl.ClientHear(c, 1, l); ok || !sameClient(got, newClient(1)) {
				t.Errorf("ClientHear(%#v, 1, %#v) = %v, %v", c, l, got, ok)
			}
		}
		for _, base := range [][]impl.Row{nil, {}, make([]impl.Row, 0, 9), impl.TreeNew()[:0]} {
			bad := impl.Client{Who: 1, Base: base, Wait: wait}
			if got, ok := impl.ClientHear(bad, 0, nil); ok || !noClient(got) || impl.ClientOk(bad) {
				t.Errorf("%#v is valid, and becomes %v", bad, got)
			}
		}
	}
}

func TestClientsAreNotModified(t *testing.T) {
	log := grownLog(4, 40)
	clients := []impl.Client{newClient(1), {}, clientAt(1, log, 0, 40), clientAt(2, log, 12, 3), clientAt(3, log, 40, 0), clientAt(2, lonelyLog(2, 40), 20, 20)}
	for _, c := range notClients() {
		clients = append(clients, c)
	}
	for _, c := range clients {
		untouchedClient(t, c, func(c impl.Client) {
			impl.ClientOk(c)
			impl.ClientShow(c)
			for _, o := range changesFor(c) {
				impl.ClientDo(c, o)
			}
			for _, l := range [][]impl.Entry{nil, log, c.Wait, append(slices.Clone(log[:20]), impl.Entry{}), lonelyLog(1, 3)} {
				for _, from := range []int{-1, 0, 1, c.Seen, c.Seen + 1, 40, 41} {
					untouchedLog(t, l, func(l []impl.Entry) { impl.ClientHear(c, from, l) })
				}
				if from := max(0, min(40, c.Seen)); from < 40 {
					untouchedLog(t, log[from:], func(l []impl.Entry) { impl.ClientHear(c, from, l) })
				}
			}
		})
	}
}

// clientCalls are calls that give clients, by name.
func clientCalls(l []impl.Entry) map[string]func(c impl.Client) impl.Client {
	first := func(c impl.Client, _ bool) impl.Client { return c }
	calls := map[string]func(c impl.Client) impl.Client{
		"ClientDo of a text":     func(c impl.Client) impl.Client { return first(impl.ClientDo(c, textOp(11, "d"))) },
		"ClientDo of a next row": func(c impl.Client) impl.Client { return first(impl.ClientDo(c, makeOp(11, 1, 0, "d"))) },
		"ClientDo of a far row":  func(c impl.Client) impl.Client { return first(impl.ClientDo(c, makeOp(13, 1, 0, "d"))) },
		"ClientDo of nothing":    func(c impl.Client) impl.Client { return first(impl.ClientDo(c, impl.Op{})) },
		"ClientHear of nothing":  func(c impl.Client) impl.Client { return first(impl.ClientHear(c, c.Seen, nil)) },
		"ClientHear of a gap":    func(c impl.Client) impl.Client { return first(impl.ClientHear(c, c.Seen+1, nil)) },
		"ClientHear of its own":  func(c impl.Client) impl.Client { return first(impl.ClientHear(c, c.Seen, c.Wait)) },
		"ClientShow as a base":   func(c impl.Client) impl.Client { return impl.Client{Base: impl.ClientShow(c)} },
	}
	for _, n := range []int{0, 1, 2, 5, 39, 40, 41} {
		l := l[:min(n, len(l))]
		calls["ClientHear of "+strconv.Itoa(n)] = func(c impl.Client) impl.Client { return first(impl.ClientHear(c, 0, l)) }
	}
	return calls
}

// What comes of a client is new memory, up to its capacity, also if nothing changed.
func TestClientsGiveNewMemory(t *testing.T) {
	log, alone := grownLog(6, 41), lonelyLog(1, 40)
	clients := []impl.Client{newClient(1), clientAt(1, log, 0, 40), clientAt(1, log, 3, 2), clientAt(1, log, 9, 0), clientAt(1, alone, 20, 20), clientAt(1, alone, 0, 40), {}}
	for _, c := range clients {
		heard := append(make([]impl.Entry, 0, 64), log...)
		for what, call := range clientCalls(heard) {
			// The spare capacity is where something would come that is added without a copy.
			arg := c
			arg.Base = append(make([]impl.Row, 0, 64), c.Base...)
			arg.Wait = append(make([]impl.Entry, 0, 64), c.Wait...)
			first := call(arg)
			kept := copyClient(first)
			second := call(arg)
			spoilRows(second.Base)
			spoil(second.Wait)
			if !sameClient(arg, c) || !sameClient(first, kept) || !slices.Equal(heard, log) {
				t.Fatalf("%s: after writing to one result the client is %v and the other result %v", what, arg, first)
			}
			if again := call(arg); !sameClient(again, kept) {
				t.Fatalf("%s: after writing to one result another one is %v", what, again)
			}
			spoilRows(arg.Base)
			spoil(arg.Wait)
			if !sameClient(first, kept) {
				t.Fatalf("%s: after writing to the client the result is %v", what, first)
			}
		}
	}
}

// What a client heard is not kept in its memory: the delivery can be written to afterwards.
func TestDeliveriesAreNotKept(t *testing.T) {
	log := grownLog(7, 40)
	for seen := range 41 {
		c := clientAt(2, log, seen, 40)
		l := slices.Clone(log)
		after, ok := impl.ClientHear(c, 0, l)
		kept := copyClient(after)
		spoil(l)
		if !ok || !sameClient(after, kept) {
			t.Errorf("after writing to a delivery the client is %v, %v", after, ok)
		}
	}
}

// Two clients that grow out of one do not write over each other.
func TestClientsGrowApart(t *testing.T) {
	c := newClient(1)
	for seq := 1; seq <= 40; seq++ {
		one, okOne := impl.ClientDo(c, textOp(11, "a"))
		two, okTwo := impl.ClientDo(c, textOp(11, "b"))
		if !okOne || !okTwo || one.Wait[seq-1] != entryOf(1, seq, "text 11 'a'") || two.Wait[seq-1] != entryOf(1, seq, "text 11 'b'") {
			t.Fatalf("two clients out of %v are %v and %v", c, one, two)
		}
		c = one
	}
	if after, ok := impl.ClientDo(c, textOp(11, "a")); ok || !sameClient(after, c) {
		t.Errorf("a 41st entry waits in %v", after)
	}
}

// clientModel is what a client is by the log of the server, how much of it is applied, and all own entries from the first on.
type clientModel struct {
	seen int
	own  []impl.Entry
	rows int
}

func (m clientModel) client(who int, log []impl.Entry) impl.Client {
	done := len(entriesBy(log[:m.seen], who))
	return impl.Client{Who: who, Seen: m.seen, Base: wantTree(log[:m.seen]), Wait: m.own[done:], Done: done, Made: m.rows}
}

// P62 to P74: in long random runs of three clients and one log, each client is what the log and its own entries say; in the end all show the same.
func TestClientsInRandomRuns(t *testing.T) {
	t.Parallel()
	for seed := range int64(60) {
		random := rand.New(rand.NewSource(seed))
		clients := map[int]impl.Client{1: newClient(1), 2: newClient(2), 3: newClient(3)}
		models := map[int]*clientModel{1: {}, 2: {}, 3: {}}
		var log []impl.Entry
		for range 300 {
			who := 1 + random.Intn(3)
			m := models[who]
			switch random.Intn(3) {
			case 0:
				clients[who] = doAny(t, random, clients[who], m)
			case 1:
				if n := len(entriesBy(log, who)); n < len(m.own) && len(log) < 40 {
					log = append(log, m.own[n])
				}
			default:
				clients[who] = hearAny(t, random, clients[who], m, log)
			}
			if want := m.client(who, log); !sameClient(clients[who], want) || !impl.ClientOk(clients[who]) {
				t.Fatalf("client %d is %v, want %v", who, clients[who], want)
			}
		}
		for who, c := range clients {
			after, ok := impl.ClientHear(c, 0, log)
			if !ok || !slices.Equal(after.Base, impl.LogTree(log)) || after.Seen != len(log) {
				t.Fatalf("at the end client %d is %v, %v", who, after, ok)
			}
		}
	}
}

// doAny lets a client do a change, of which those that make a row are only sometimes possible.
func doAny(t *testing.T, random *rand.Rand, c impl.Client, m *clientModel) impl.Client {
	o := anyChange(random, c.Who)
	if o.Kind == impl.OpMake && m.rows < 6 && random.Intn(4) > 0 {
		o.Id = made[c.Who][m.rows]
	}
	makes := o.Kind == impl.OpMake
	want := len(m.own) < 40 && (!makes || m.rows < 6 && o.Id == made[c.Who][m.rows])
	shown := impl.ClientShow(c)
	after, ok := impl.ClientDo(c, o)
	if ok != want {
		t.Fatalf("ClientDo(%v, %v) = %v, %v", c, o, after, ok)
	}
	if ok {
		m.own = append(m.own, impl.Entry{Who: c.Who, Seq: len(m.own) + 1, Op: o})
		shown = wantDo(shown, o)
		if makes {
			m.rows++
		}
	}
	if got := impl.ClientShow(after); !slices.Equal(got, shown) {
		t.Fatalf("after ClientDo(%v, %v) there is shown %v", c, o, got)
	}
	return after
}

// hearAny delivers any part of the log, which fails if it begins after what is applied.
func hearAny(t *testing.T, random *rand.Rand, c impl.Client, m *clientModel, log []impl.Entry) impl.Client {
	from := random.Intn(len(log) + 1)
	to := from + random.Intn(len(log)-from+1)
	after, ok := impl.ClientHear(c, from, log[from:to])
	if ok != (from <= m.seen) {
		t.Fatalf("ClientHear(%v, %d, %v) = %v, %v", c, from, log[from:to], after, ok)
	}
	if ok {
		m.seen = max(m.seen, to)
	}
	return after
}
