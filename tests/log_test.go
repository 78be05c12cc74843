package tests

import (
	"fmt"
	"math/rand"
	"slices"
	"strconv"
	"testing"

	"loop.example/plashet/impl"
)

// entryOf is an entry with a change that is written as text.
func entryOf(who, seq int, change string) impl.Entry {
	o, ok := impl.OpRead(change)
	if !ok {
		panic("not a change: " + change)
	}
	return impl.Entry{Who: who, Seq: seq, Op: o}
}

// logOf has one entry for each line, such as "1 1 make 11 1 0 'a'".
func logOf(lines ...string) []impl.Entry {
	var l []impl.Entry
	for _, line := range lines {
		// All clients and the sequence numbers in these lines have one digit.
		who, seq := int(line[0]-'0'), int(line[2]-'0')
		l = append(l, entryOf(who, seq, line[4:]))
	}
	return l
}

// isEntry says whether an entry is valid, by the document.
func isEntry(e impl.Entry) bool {
	own, client := made[e.Who]
	if !client || e.Seq < 1 || e.Seq > 40 || !impl.OpOk(e.Op) {
		return false
	}
	return e.Op.Kind != impl.OpMake || slices.Contains(own, e.Op.Id)
}

// entriesBy are the entries of one client.
func entriesBy(l []impl.Entry, who int) []impl.Entry {
	return slices.DeleteFunc(slices.Clone(l), func(e impl.Entry) bool { return e.Who != who })
}

// isLog says whether entries are a log, by looking at those of each client apart.
func isLog(l []impl.Entry) bool {
	if len(l) > 40 {
		return false
	}
	for who := range made {
		for i, e := range entriesBy(l, who) {
			if e.Seq != i+1 {
				return false
			}
		}
	}
	return !slices.ContainsFunc(l, func(e impl.Entry) bool { return !isEntry(e) })
}

// wantAdd is what LogAdd has to return.
func wantAdd(l []impl.Entry, e impl.Entry) ([]impl.Entry, int) {
	switch {
	case !isLog(l) || !isEntry(e):
		return nil, -1
	case slices.Index(l, e) >= 0:
		return l, 0
	case len(l) < 40 && e.Seq == len(entriesBy(l, e.Who))+1:
		return append(slices.Clip(l), e), 1
	}
	return l, -1
}

// wantTree is what LogTree has to return for a log.
func wantTree(l []impl.Entry) []impl.Row {
	t := rowsOf("1", "2", "3")
	for _, e := range l {
		t = wantDo(t, e.Op)
	}
	return t
}

// smallChanges has for each client a few changes: of its own row, and of one that another client may have made.
var smallChanges = map[int][]impl.Op{
	1: {makeOp(11, 1, 0, "a"), textOp(11, "b"), moveOp(21, 11, 0)},
	2: {makeOp(21, 11, 0, ""), textOp(11, "c"), moveOp(11, 21, 0)},
	3: {makeOp(36, 1, 11, "dd"), textOp(11, "b"), moveOp(11, 2, 36)},
}

// smallEntries are those with changes of smallChanges and sequence numbers up to one.
func smallEntries(last int) []impl.Entry {
	var all []impl.Entry
	for who := 1; who <= 3; who++ {
		for seq := 1; seq <= last; seq++ {
			for _, o := range smallChanges[who] {
				all = append(all, impl.Entry{Who: who, Seq: seq, Op: o})
			}
		}
	}
	return all
}

// smallLogs are all with up to four entries that have changes of smallChanges.
func smallLogs() [][]impl.Entry {
	all := [][]impl.Entry{nil}
	for from := 0; len(all[from]) < 4; from++ {
		for who := 1; who <= 3; who++ {
			seq := len(entriesBy(all[from], who)) + 1
			for _, o := range smallChanges[who] {
				all = append(all, append(slices.Clip(all[from]), impl.Entry{Who: who, Seq: seq, Op: o}))
			}
		}
	}
	return all
}

// anyChange is one that a client can have in an entry.
func anyChange(random *rand.Rand, who int) impl.Op {
	pick := func(from []int) int { return from[random.Intn(len(from))] }
	up, at := pick(rowNumbers()), pick(append(createdNumbers(), 0))
	text := goodTexts[random.Intn(len(goodTexts))]
	switch random.Intn(3) {
	case 0:
		return makeOp(pick(made[who]), up, at, text)
	case 1:
		return textOp(pick(createdNumbers()), text)
	}
	return moveOp(pick(createdNumbers()), up, at)
}

// grownLog has a number of entries of any clients; the same seed gives the same.
func grownLog(seed int64, length int) []impl.Entry {
	random := rand.New(rand.NewSource(seed))
	var l []impl.Entry
	for len(l) < length {
		who := 1 + random.Intn(3)
		l = append(l, impl.Entry{Who: who, Seq: len(entriesBy(l, who)) + 1, Op: anyChange(random, who)})
	}
	return l
}

// lonelyLog has entries of one client only.
func lonelyLog(who, length int) []impl.Entry {
	random := rand.New(rand.NewSource(int64(who)))
	var l []impl.Entry
	for seq := 1; seq <= length; seq++ {
		l = append(l, impl.Entry{Who: who, Seq: seq, Op: anyChange(random, who)})
	}
	return l
}

// largeLogs are of all lengths, by several clients and by one.
func largeLogs() [][]impl.Entry {
	var all [][]impl.Entry
	for length := range 41 {
		for seed := range int64(4) {
			all = append(all, grownLog(seed, length))
		}
		for who := range made {
			all = append(all, lonelyLog(who, length))
		}
	}
	return all
}

// someLogs are valid ones: the empty one, all small ones and many large ones.
func someLogs() [][]impl.Entry {
	return append(smallLogs(), largeLogs()...)
}

// largeEntries are some valid ones for a large log: those that are there, changed ones, and those around the ends of each client's.
func largeEntries(l []impl.Entry) []impl.Entry {
	all := slices.Clone(l)
	for _, e := range l {
		e.Op = textOp(e.Op.Id, e.Op.Text+"a")
		if impl.OpOk(e.Op) {
			all = append(all, e)
		}
	}
	for who := range made {
		next := len(entriesBy(l, who)) + 1
		for seq := max(1, next-2); seq <= min(40, next+2); seq++ {
			for _, o := range smallChanges[who] {
				all = append(all, impl.Entry{Who: who, Seq: seq, Op: o})
			}
		}
		all = append(all, impl.Entry{Who: who, Seq: 40, Op: moveOp(11, 1, 0)}, impl.Entry{Who: who, Seq: 1, Op: moveOp(36, 35, 34)})
	}
	return all
}

// eachAdd goes over logs and valid entries, of which some are there, some are the next ones, and some are neither.
func eachAdd(call func(l []impl.Entry, e impl.Entry)) {
	small := smallEntries(6)
	for _, l := range smallLogs() {
		for _, e := range small {
			call(l, e)
		}
	}
	for _, l := range largeLogs() {
		for _, e := range largeEntries(l) {
			call(l, e)
		}
	}
}

// notEntries are invalid ones, by what is wrong with them.
func notEntries() map[string]impl.Entry {
	all := map[string]impl.Entry{
		"the zero value":  {},
		"no client":       {Seq: 1, Op: textOp(11, "a")},
		"no number":       {Who: 1, Op: textOp(11, "a")},
		"no change":       {Who: 1, Seq: 1},
		"all at the ends": {Who: 4, Seq: 41, Op: makeOp(41, 1, 0, "a")},
	}
	for _, who := range append([]int{-3, -2, -1, 0, 4, 5, 10, 11}, farNumbers...) {
		name := "client " + strconv.Itoa(who)
		all[name+" makes"] = impl.Entry{Who: who, Seq: 1, Op: makeOp(11, 1, 0, "a")}
		all[name+" writes"] = impl.Entry{Who: who, Seq: 1, Op: textOp(11, "a")}
		all[name+" moves"] = impl.Entry{Who: who, Seq: 1, Op: moveOp(11, 1, 0)}
	}
	for _, seq := range append([]int{-40, -2, -1, 0, 41, 42, 80}, farNumbers...) {
		name := "number " + strconv.Itoa(seq)
		all[name+" makes"] = impl.Entry{Who: 1, Seq: seq, Op: makeOp(11, 1, 0, "a")}
		all[name+" writes"] = impl.Entry{Who: 2, Seq: seq, Op: textOp(11, "a")}
		all[name+" moves"] = impl.Entry{Who: 3, Seq: seq, Op: moveOp(11, 1, 0)}
	}
	for what, o := range notChanges() {
		all[what] = impl.Entry{Who: 1, Seq: 1, Op: o}
	}
	for who := range made {
		for _, id := range createdNumbers() {
			if creator()[id] != who {
				all[fmt.Sprintf("client %d makes row %d", who, id)] = impl.Entry{Who: who, Seq: 1, Op: makeOp(id, 1, 0, "a")}
			}
		}
	}
	return all
}

// notLogs are lists of entries that are none, by what is wrong with them.
func notLogs() map[string][]impl.Entry {
	all := map[string][]impl.Entry{
		"it begins with 2":                 logOf("1 2 text 11 'a'"),
		"a client begins with 2":           logOf("1 1 text 11 'a'", "2 2 text 11 'a'"),
		"a gap":                            logOf("1 1 text 11 'a'", "1 3 text 11 'a'"),
		"a gap with another client in it":  logOf("1 1 text 11 'a'", "2 1 text 11 'a'", "1 3 text 11 'a'"),
		"numbers over all clients":         logOf("1 1 text 11 'a'", "2 2 text 11 'a'", "3 3 text 11 'a'"),
		"a repeated entry":                 logOf("1 1 text 11 'a'", "1 1 text 11 'a'"),
		"a repeated entry later on":        logOf("1 1 text 11 'a'", "1 2 text 12 'a'", "2 1 text 11 'a'", "1 1 text 11 'a'"),
		"a repeated number":                logOf("1 1 text 11 'a'", "1 1 text 11 'b'"),
		"a repeated number later on":       logOf("1 1 text 11 'a'", "1 2 text 11 'b'", "1 3 text 11 'c'", "1 2 text 11 'd'"),
		"a repeated last number":           logOf("2 1 text 11 'a'", "2 2 text 11 'b'", "1 1 text 11 'c'", "2 2 text 11 'b'"),
		"out of order":                     logOf("1 2 text 11 'a'", "1 1 text 11 'b'"),
		"out of order later on":            logOf("1 1 text 11 'a'", "1 3 text 11 'b'", "1 2 text 11 'c'"),
		"out of order, with another":       logOf("1 1 text 11 'a'", "2 2 text 11 'a'", "1 2 text 11 'c'", "2 1 text 11 'd'"),
		"another client's row":             logOf("1 1 text 11 'a'", "1 2 make 21 1 0 'a'"),
		"another client's row, once there": logOf("2 1 make 21 1 0 'a'", "1 1 make 21 1 0 'a'"),
		"numbers from 0 on":                logOf("1 0 text 11 'a'", "1 1 text 11 'b'"),
		"client 0":                         logOf("1 1 text 11 'a'", "0 1 text 11 'b'"),
		"client 4":                         logOf("1 1 text 11 'a'", "4 1 text 11 'b'"),
		"41 entries of all clients":        append(grownLog(1, 40), impl.Entry{Who: 2, Seq: len(entriesBy(grownLog(1, 40), 2)) + 1, Op: textOp(11, "a")}),
		"41 entries of one client":         lonelyLog(1, 41),
		"41 entries, the last of another":  append(lonelyLog(1, 40), entryOf(2, 1, "text 11 'a'")),
		"41 entries, the last there":       append(lonelyLog(1, 40), lonelyLog(1, 40)[39]),
		"42 entries":                       grownLog(1, 42),
		"120 entries":                      grownLog(1, 120),
	}
	for what, e := range notEntries() {
		all["only "+what] = []impl.Entry{e}
		all["first "+what] = append([]impl.Entry{e}, grownLog(2, 5)...)
		all["last "+what] = append(logOf("3 1 text 11 'a'"), e)
	}
	return all
}

// untouchedLog calls with a log that has spare capacity and fails if any of its memory was written to.
func untouchedLog(t *testing.T, l []impl.Entry, call func(l []impl.Entry)) {
	t.Helper()
	mark := impl.Entry{Who: -7, Seq: -7, Op: textOp(-7, "mark")}
	whole := append(slices.Clone(l), mark, mark)
	before := slices.Clone(whole)
	call(whole[:len(l)])
	if !slices.Equal(whole, before) {
		t.Errorf("an argument was changed from %v to %v", before, whole)
	}
}

// spoil writes to all memory of a log, up to its capacity.
func spoil(l []impl.Entry) {
	whole := l[:cap(l)]
	for i := range whole {
		whole[i] = impl.Entry{Who: -9, Seq: -9, Op: textOp(-9, "spoiled")}
	}
}

func TestLogConstants(t *testing.T) {
	if impl.LogMax != 40 {
		t.Errorf("LogMax is %d", impl.LogMax)
	}
}

// P44: the ends of the ranges, and rows of the client itself and of others.
func TestEntryOkWrittenOut(t *testing.T) {
	for _, c := range []struct {
		e    impl.Entry
		want bool
	}{
		{entryOf(1, 1, "make 11 1 0 'a'"), true},
		{entryOf(1, 40, "make 16 1 0 ''"), true},
		{entryOf(2, 1, "make 21 11 31 'abcd'"), true},
		{entryOf(3, 40, "make 36 3 0 ''"), true},
		{entryOf(1, 1, "text 36 'a'"), true},
		{entryOf(3, 40, "text 11 ''"), true},
		{entryOf(2, 1, "move 11 31 36"), true},
		{entryOf(2, 40, "move 21 21 21"), true},
		{entryOf(0, 1, "text 11 'a'"), false},
		{entryOf(4, 1, "text 11 'a'"), false},
		{entryOf(-1, 1, "text 11 'a'"), false},
		{entryOf(1, 0, "text 11 'a'"), false},
		{entryOf(1, 41, "text 11 'a'"), false},
		{entryOf(1, -1, "text 11 'a'"), false},
		{entryOf(2, 1, "make 11 1 0 'a'"), false},
		{entryOf(3, 1, "make 11 1 0 'a'"), false},
		{entryOf(1, 1, "make 21 1 0 'a'"), false},
		{entryOf(3, 1, "make 26 11 0 'a'"), false},
		{entryOf(1, 1, "make 31 1 11 'a'"), false},
		{entryOf(0, 1, "make 11 1 0 'a'"), false},
		{impl.Entry{Who: 1, Seq: 1, Op: makeOp(11, 1, 0, "abcda")}, false},
		{impl.Entry{Who: 1, Seq: 1, Op: makeOp(1, 1, 0, "a")}, false},
		{impl.Entry{Who: 1, Seq: 1, Op: textOp(1, "a")}, false},
		{impl.Entry{Who: 1, Seq: 1, Op: moveOp(17, 1, 0)}, false},
		{impl.Entry{Who: 1, Seq: 1}, false},
		{impl.Entry{}, false},
	} {
		if got := impl.EntryOk(c.e); got != c.want {
			t.Errorf("EntryOk(%v) = %v", c.e, got)
		}
	}
}

// P44: every client and sequence number, with a change of each kind.
func TestEntryOkOfEveryNumber(t *testing.T) {
	t.Parallel()
	all := append(slices.Clone(farNumbers), -40, -39, -3, -2, -1)
	for n := range 50 {
		all = append(all, n)
	}
	for _, who := range all {
		for _, seq := range all {
			for _, o := range []impl.Op{makeOp(11, 1, 0, "a"), makeOp(26, 1, 0, ""), makeOp(31, 36, 31, ""), textOp(21, "b"), moveOp(36, 2, 0), {}} {
				e := impl.Entry{Who: who, Seq: seq, Op: o}
				if got := impl.EntryOk(e); got != isEntry(e) {
					t.Errorf("EntryOk(%v) = %v", e, got)
				}
			}
		}
	}
}

// P44: every valid change; one that creates a row is an entry of nobody but the row's client.
func TestEntryOkOfEveryChange(t *testing.T) {
	t.Parallel()
	owner := creator()
	for _, o := range validChanges() {
		for who := 1; who <= 3; who++ {
			want := o.Kind != impl.OpMake || owner[o.Id] == who
			if got := impl.EntryOk(impl.Entry{Who: who, Seq: 1 + o.Id%40, Op: o}); got != want {
				t.Fatalf("EntryOk of %v by %d is %v", o, who, got)
			}
		}
	}
}

// P44: a valid entry with one thing that is wrong.
func TestEntriesSpoiled(t *testing.T) {
	valid := append(smallEntries(3), grownLog(7, 40)...)
	for _, e := range valid {
		if !impl.EntryOk(e) {
			t.Errorf("%v is invalid", e)
		}
		for _, who := range append([]int{-1, 0, 4}, farNumbers...) {
			if bad := (impl.Entry{Who: who, Seq: e.Seq, Op: e.Op}); impl.EntryOk(bad) {
				t.Errorf("%v is valid", bad)
			}
		}
		for _, seq := range append([]int{-1, 0, 41}, farNumbers...) {
			if bad := (impl.Entry{Who: e.Who, Seq: seq, Op: e.Op}); impl.EntryOk(bad) {
				t.Errorf("%v is valid", bad)
			}
		}
		for _, o := range notChanges() {
			if bad := (impl.Entry{Who: e.Who, Seq: e.Seq, Op: o}); impl.EntryOk(bad) {
				t.Errorf("%v is valid", bad)
			}
		}
		for who := 1; who <= 3; who++ {
			other := impl.Entry{Who: who, Seq: e.Seq, Op: e.Op}
			if who != e.Who && impl.EntryOk(other) == (e.Op.Kind == impl.OpMake) {
				t.Errorf("EntryOk(%v) = %v", other, impl.EntryOk(other))
			}
		}
	}
	for what, e := range notEntries() {
		if impl.EntryOk(e) {
			t.Errorf("%s: %v is valid", what, e)
		}
	}
}

// P47: logs are those whose sequence numbers are 1, 2, 3, and so on for each client, and no other lists.
func TestLogOkWrittenOut(t *testing.T) {
	for _, l := range [][]impl.Entry{
		nil, {},
		logOf("1 1 make 11 1 0 'a'"),
		logOf("3 1 text 11 'a'", "3 2 text 11 'a'", "3 3 text 11 'a'"),
		logOf("2 1 text 11 'a'", "1 1 text 11 'a'", "2 2 text 11 'a'", "3 1 text 11 'a'", "2 3 move 21 1 0", "1 2 make 11 1 0 ''"),
		logOf("1 1 make 11 1 0 'a'", "1 2 make 11 1 0 'a'"),
		grownLog(1, 39), grownLog(1, 40), lonelyLog(2, 39), lonelyLog(2, 40),
	} {
		if !impl.LogOk(l) {
			t.Errorf("%v is not a log", l)
		}
	}
	for what, l := range notLogs() {
		if impl.LogOk(l) {
			t.Errorf("%s: %v is a log", what, l)
		}
	}
}

// P47: every list of up to four entries of two clients, and of up to three with any client and with numbers from 0 on.
func TestLogOkOfEveryShortList(t *testing.T) {
	t.Parallel()
	var grow func(l, from []impl.Entry, left int)
	grow = func(l, from []impl.Entry, left int) {
		if got := impl.LogOk(l); got != isLog(l) {
			t.Fatalf("LogOk(%v) = %v", l, got)
		}
		if left == 0 {
			return
		}
		for _, e := range from {
			grow(append(slices.Clip(l), e), from, left-1)
		}
	}
	var two, others []impl.Entry
	for seq := 1; seq <= 4; seq++ {
		two = append(two, entryOf(1, seq, "text 11 'a'"), entryOf(2, seq, "text 11 'a'"), entryOf(2, seq, "make 21 1 0 ''"))
	}
	for who := 0; who <= 4; who++ {
		for seq := 0; seq <= 3; seq++ {
			others = append(others, entryOf(who, seq, "text 11 'a'"), entryOf(who, seq, "make 31 1 0 ''"))
		}
	}
	grow(nil, two, 4)
	grow(nil, others, 3)
}

// P47: no log stays one with a number changed, or with an entry left out that others of its client follow.
func TestLogsSpoiled(t *testing.T) {
	t.Parallel()
	for _, l := range largeLogs() {
		for i := range l {
			for _, seq := range []int{0, l[i].Seq - 1, l[i].Seq + 1, 40, 41} {
				other := slices.Clone(l)
				other[i].Seq = seq
				if got := impl.LogOk(other); got != (seq == l[i].Seq) {
					t.Fatalf("LogOk(%v) = %v", other, got)
				}
			}
			rest := slices.Delete(slices.Clone(l), i, i+1)
			last := l[i].Seq == len(entriesBy(l, l[i].Who))
			if got := impl.LogOk(rest); got != last {
				t.Fatalf("LogOk(%v) = %v", rest, got)
			}
		}
	}
}

func TestLogSeqWrittenOut(t *testing.T) {
	l := logOf("2 1 text 11 'a'", "1 1 text 11 'a'", "2 2 text 11 'a'", "2 3 move 21 1 0", "1 2 make 11 1 0 ''")
	for who, want := range map[int]int{1: 2, 2: 3, 3: 0, 0: 0, 4: 0, -1: 0, -2: 0, 11: 0} {
		if got := impl.LogSeq(l, who); got != want {
			t.Errorf("LogSeq of %d = %d, want %d", who, got, want)
		}
	}
	for who := 1; who <= 3; who++ {
		if got := impl.LogSeq(lonelyLog(who, 40), who); got != 40 {
			t.Errorf("LogSeq of a full log = %d", got)
		}
	}
}

// P47: LogSeq is the number of entries of a client, and 0 of a number that is no client's; together they are all entries.
func TestLogSeqCountsEntries(t *testing.T) {
	t.Parallel()
	for _, l := range someLogs() {
		sum := 0
		for who := 1; who <= 3; who++ {
			own := entriesBy(l, who)
			got := impl.LogSeq(l, who)
			if got != len(own) {
				t.Fatalf("LogSeq(%v, %d) = %d", l, who, got)
			}
			for i, e := range own {
				if e.Seq != i+1 {
					t.Fatalf("entry %d of client %d in %v is %v", i, who, l, e)
				}
			}
			sum += got
		}
		if sum != len(l) {
			t.Fatalf("%d entries are counted in %v", sum, l)
		}
		for _, who := range append([]int{-40, -3, -1, 0, 4, 5, 11}, farNumbers...) {
			if got := impl.LogSeq(l, who); got != 0 {
				t.Fatalf("LogSeq(%v, %d) = %d", l, who, got)
			}
		}
	}
}

// P45, P46, P51: one entry after the other, as they come.
func TestLogAddWrittenOut(t *testing.T) {
	var l []impl.Entry
	for _, c := range []struct {
		line string
		want int
	}{
		{"1 2 text 11 'a'", -1},
		{"1 1 make 11 1 0 'a'", 1},
		{"1 1 make 11 1 0 'a'", 0},
		{"1 1 make 11 1 0 'b'", -1},
		{"1 1 make 12 1 0 'a'", -1},
		{"1 1 text 11 'a'", -1},
		{"2 2 text 11 'b'", -1},
		{"1 3 text 11 'b'", -1},
		{"1 9 text 11 'b'", -1},
		{"2 1 text 11 'b'", 1},
		{"1 1 make 11 1 0 'a'", 0},
		{"2 1 text 11 'b'", 0},
		{"3 1 text 11 'b'", 1},
		{"1 2 text 11 'b'", 1},
		{"1 2 text 11 'b'", 0},
		{"1 2 text 11 'a'", -1},
		{"1 2 text 12 'b'", -1},
		{"1 3 text 11 'b'", 1},
		{"1 4 make 11 1 0 'a'", 1},
		{"1 2 move 11 1 0", -1},
		{"2 3 move 11 1 0", -1},
		{"2 2 move 11 1 0", 1},
		{"2 2 move 11 1 12", -1},
		{"2 2 move 11 2 0", -1},
		{"2 2 move 12 1 0", -1},
		{"2 2 move 11 1 0", 0},
	} {
		want := l
		if c.want == 1 {
			want = append(slices.Clone(l), logOf(c.line)...)
		}
		after, got := impl.LogAdd(l, logOf(c.line)[0])
		if got != c.want || !slices.Equal(after, want) {
			t.Fatalf("LogAdd of %s = %v, %d, want %v, %d", c.line, after, got, want, c.want)
		}
		l = after
	}
	if len(l) != 7 || !impl.LogOk(l) {
		t.Errorf("after all there is %v", l)
	}
}

// P45: the last place of a log, and a log without a place.
func TestLogAddAtTheEnd(t *testing.T) {
	for who := 1; who <= 3; who++ {
		other := who%3 + 1
		l := lonelyLog(who, 39)
		next := entryOf(who, 40, "text 11 'a'")
		full, got := impl.LogAdd(l, next)
		if got != 1 || !slices.Equal(full, append(slices.Clone(l), next)) || !impl.LogOk(full) {
			t.Fatalf("LogAdd of the 40th entry = %v, %d", full, got)
		}
		if l, got := impl.LogAdd(l, entryOf(other, 1, "text 11 'a'")); got != 1 || len(l) != 40 || l[39].Who != other {
			t.Errorf("LogAdd of the 40th entry by another client = %v, %d", l, got)
		}
		if l, got := impl.LogAdd(full, entryOf(other, 1, "text 11 'a'")); got != -1 || !slices.Equal(l, full) {
			t.Errorf("LogAdd of a next entry to a full log = %v, %d", l, got)
		}
		if l, got := impl.LogAdd(full, entryOf(who, 40, "text 11 'b'")); got != -1 || !slices.Equal(l, full) {
			t.Errorf("LogAdd of another 40th entry = %v, %d", l, got)
		}
		if l, got := impl.LogAdd(full, entryOf(who, 41, "text 11 'a'")); got != -1 || len(l) != 0 {
			t.Errorf("LogAdd of a 41st entry = %v, %d", l, got)
		}
		for _, e := range full {
			if l, got := impl.LogAdd(full, e); got != 0 || !slices.Equal(l, full) {
				t.Errorf("LogAdd of %v, which is there, to a full log = %v, %d", e, l, got)
			}
		}
	}
}

// P45: LogAdd is as the document has it, and gives each of its numbers often.
func TestLogAddAsStated(t *testing.T) {
	t.Parallel()
	seen := map[int]int{}
	eachAdd(func(l []impl.Entry, e impl.Entry) {
		after, got := impl.LogAdd(l, e)
		wantLog, want := wantAdd(l, e)
		if got != want || !slices.Equal(after, wantLog) {
			t.Fatalf("LogAdd(%v, %v) = %v, %d, want %v, %d", l, e, after, got, wantLog, want)
		}
		seen[got]++
	})
	for _, n := range []int{-1, 0, 1} {
		if seen[n] < 1000 {
			t.Errorf("LogAdd was %d only %d times", n, seen[n])
		}
	}
}

// P45: 1 is for the next entry of a client if there is space; the entry is then the last one, and those before are as they were.
func TestLogAddOfTheNext(t *testing.T) {
	t.Parallel()
	eachAdd(func(l []impl.Entry, e impl.Entry) {
		after, got := impl.LogAdd(l, e)
		next := e.Seq == impl.LogSeq(l, e.Who)+1 && len(l) < 40
		if (got == 1) != next || (got == 0) != slices.Contains(l, e) {
			t.Fatalf("LogAdd(%v, %v) gives %d", l, e, got)
		}
		added := 0
		if next {
			added = 1
		}
		if len(after) != len(l)+added || !slices.Equal(after[:len(l)], l) || !impl.LogOk(after) {
			t.Fatalf("LogAdd(%v, %v) = %v, %d", l, e, after, got)
		}
		if next && after[len(l)] != e {
			t.Fatalf("the last entry of %v is not %v", after, e)
		}
	})
}

// P46: an entry is added once; LogSeq of its client has grown by one, and all others have not.
func TestLogAddOnce(t *testing.T) {
	t.Parallel()
	eachAdd(func(l []impl.Entry, e impl.Entry) {
		after, got := impl.LogAdd(l, e)
		if got != 1 {
			return
		}
		if twice, again := impl.LogAdd(after, e); again != 0 || !slices.Equal(twice, after) {
			t.Fatalf("LogAdd(%v, %v) = %v, %d", after, e, twice, again)
		}
		for who := 0; who <= 4; who++ {
			want := impl.LogSeq(l, who)
			if who == e.Who {
				want++
			}
			if seq := impl.LogSeq(after, who); seq != want {
				t.Fatalf("LogSeq of %d after LogAdd(%v, %v) is %d", who, l, e, seq)
			}
		}
	})
}

// P51: beyond the next number, and at a present number with another change, LogAdd is -1 and changes nothing.
func TestLogAddBeyondAndBeside(t *testing.T) {
	t.Parallel()
	for _, l := range someLogs() {
		for who := 1; who <= 3; who++ {
			for seq := impl.LogSeq(l, who) + 2; seq <= 40; seq++ {
				e := impl.Entry{Who: who, Seq: seq, Op: smallChanges[who][seq%3]}
				if after, got := impl.LogAdd(l, e); got != -1 || !slices.Equal(after, l) {
					t.Fatalf("LogAdd(%v, %v) = %v, %d", l, e, after, got)
				}
			}
		}
		for _, present := range l {
			for _, o := range []impl.Op{textOp(present.Op.Id, "abca"), moveOp(present.Op.Id, 1, 36), makeOp(made[present.Who][5], 2, 36, "abca")} {
				e := impl.Entry{Who: present.Who, Seq: present.Seq, Op: o}
				if o == present.Op {
					continue
				}
				if after, got := impl.LogAdd(l, e); got != -1 || !slices.Equal(after, l) {
					t.Fatalf("LogAdd(%v, %v) = %v, %d", l, e, after, got)
				}
			}
		}
	}
}

// P51: a change is another one if any of its fields is.
func TestLogAddOfAlmostTheSame(t *testing.T) {
	l := logOf("1 1 make 11 1 12 'a'", "1 2 move 11 1 12", "1 3 text 11 'a'")
	for _, e := range logOf(
		"1 1 make 12 1 12 'a'", "1 1 make 11 2 12 'a'", "1 1 make 11 1 0 'a'", "1 1 make 11 1 12 'b'", "1 1 make 11 1 12 ''", "1 1 move 11 1 12",
		"1 2 move 12 1 12", "1 2 move 11 2 12", "1 2 move 11 1 0", "1 2 make 11 1 12 ''",
		"1 3 text 12 'a'", "1 3 text 11 'b'", "1 3 text 11 'aa'", "1 3 text 11 ''",
		"1 2 make 11 1 12 'a'", "1 1 text 11 'a'", "1 2 text 11 'a'", "1 3 move 11 1 12", "2 2 move 11 1 12", "3 3 text 11 'a'",
	) {
		if after, got := impl.LogAdd(l, e); got != -1 || !slices.Equal(after, l) {
			t.Errorf("LogAdd of %v = %v, %d", e, after, got)
		}
	}
}

// P48: the outline after each of several entries.
func TestLogTreeWrittenOut(t *testing.T) {
	lines := []string{
		"1 1 make 11 1 0 'a'", "2 1 make 21 11 0 ''", "2 2 make 22 1 11 'dd'", "3 1 move 11 22 0", "1 2 move 22 11 0", "3 2 text 21 'c'",
		"3 3 make 31 36 0 ''", "1 3 make 11 2 0 'b'", "2 3 text 36 'a'", "2 4 move 11 2 0", "1 4 move 31 21 0", "3 4 move 16 1 0",
	}
	want := []string{
		"1\n2\n3\n",
		"1\n.11 a\n2\n3\n",
		"1\n.11 a\n..21\n2\n3\n",
		"1\n.11 a\n..21\n.22 dd\n2\n3\n",
		"1\n.22 dd\n..11 a\n...21\n2\n3\n",
		"1\n.22 dd\n..11 a\n...21\n2\n3\n", // 22 cannot come under its own descendant
		"1\n.22 dd\n..11 a\n...21 c\n2\n3\n",
		"1\n.22 dd\n..11 a\n...21 c\n2\n3\n.31\n", // there is no row 36
		"1\n.22 dd\n..11 a\n...21 c\n2\n3\n.31\n", // 11 is there already
		"1\n.22 dd\n..11 a\n...21 c\n2\n3\n.31\n", // there is no row 36
		"1\n.22 dd\n2\n.11 a\n..21 c\n3\n.31\n",
		"1\n.22 dd\n2\n.11 a\n..21 c\n...31\n3\n",
		"1\n.22 dd\n2\n.11 a\n..21 c\n...31\n3\n", // there is no row 16
	}
	for n := range len(lines) + 1 {
		if got := impl.TreeText(impl.LogTree(logOf(lines[:n]...))); got != want[n] {
			t.Errorf("after %d entries the outline is %q, want %q", n, got, want[n])
		}
	}
}

func TestLogTreeWithoutChanges(t *testing.T) {
	for _, l := range [][]impl.Entry{
		nil, {}, make([]impl.Entry, 0, 5),
		logOf("1 1 text 11 'a'"), logOf("1 1 move 11 1 0"), logOf("2 1 text 36 'a'", "3 1 move 36 21 0", "2 2 move 21 21 0", "1 1 text 11 ''"),
	} {
		if got := impl.LogTree(l); !slices.Equal(got, rowsOf("1", "2", "3")) {
			t.Errorf("LogTree(%v) = %v", l, got)
		}
	}
}

// P48: LogTree is OpDo of each change, in order, from TreeNew on, and a valid outline with exactly the rows that were created.
func TestLogTreeAsStated(t *testing.T) {
	t.Parallel()
	for _, l := range someLogs() {
		got := impl.LogTree(l)
		if want := wantTree(l); !slices.Equal(got, want) {
			t.Fatalf("LogTree(%v) = %v, want %v", l, got, want)
		}
		step := impl.TreeNew()
		rows := slices.Clone(roots)
		for _, e := range l {
			step = impl.OpDo(step, e.Op)
			if e.Op.Kind == impl.OpMake {
				rows = append(rows, e.Op.Id)
			}
		}
		slices.Sort(rows)
		if there := ids(got); !slices.Equal(got, step) || !isOutline(got) || !slices.Equal(there, slices.Compact(rows)) {
			t.Fatalf("LogTree(%v) = %v", l, got)
		}
	}
}

// P48: all rows are created in one log, in one chain.
func TestLogTreeOfAllRows(t *testing.T) {
	var l []impl.Entry
	up := impl.RootTrash
	for i, id := range createdNumbers() {
		who := creator()[id]
		l = append(l, impl.Entry{Who: who, Seq: len(entriesBy(l, who)) + 1, Op: makeOp(id, up, 0, goodTexts[i%len(goodTexts)])})
		up = id
	}
	if got := impl.LogTree(l); !slices.Equal(got, chain(impl.RootTrash)) {
		t.Errorf("LogTree(%v) = %v", l, got)
	}
}

// P49: a log stays one without its last entries, and no entry loses a row.
func TestLogsCutOff(t *testing.T) {
	t.Parallel()
	for _, l := range largeLogs() {
		before := impl.TreeNew()
		for n := range len(l) + 1 {
			if !impl.LogOk(l[:n]) {
				t.Fatalf("%v is a log, but not %v", l, l[:n])
			}
			after := impl.LogTree(l[:n])
			for _, r := range before {
				if place(after, r.Id) < 0 {
					t.Fatalf("row %d is lost from %v to %v by %v", r.Id, before, after, l[n-1])
				}
			}
			before = after
		}
	}
}

// P50: LogTree after a successful LogAdd is OpDo of the change on LogTree.
func TestLogTreeAfterLogAdd(t *testing.T) {
	t.Parallel()
	eachAdd(func(l []impl.Entry, e impl.Entry) {
		after, got := impl.LogAdd(l, e)
		if got != 1 {
			return
		}
		tree := impl.LogTree(after)
		if want := impl.OpDo(impl.LogTree(l), e.Op); !slices.Equal(tree, want) {
			t.Fatalf("LogTree(%v) = %v, want %v", after, tree, want)
		}
	})
}

// P45, P47, P48: nothing comes of a list that is no log.
func TestNothingComesOfAnInvalidLog(t *testing.T) {
	entries := append(smallEntries(3), entryOf(1, 40, "text 11 'a'"), entryOf(2, 40, "make 21 1 0 ''"), impl.Entry{}, entryOf(0, 1, "text 11 'a'"))
	for what, l := range notLogs() {
		if impl.LogOk(l) {
			t.Errorf("%s: %v is a log", what, l)
		}
		for who := -1; who <= 5; who++ {
			if got := impl.LogSeq(l, who); got != -1 {
				t.Errorf("%s: LogSeq of %d is %d", what, who, got)
			}
		}
		if got := impl.LogTree(l); len(got) != 0 {
			t.Errorf("%s: LogTree is %v", what, got)
		}
		for _, e := range append(slices.Clone(l), entries...) {
			if after, got := impl.LogAdd(l, e); got != -1 || len(after) != 0 {
				t.Errorf("%s: LogAdd of %v = %v, %d", what, e, after, got)
			}
		}
	}
}

// P45: no log comes of an invalid entry, whatever the log is, also if the entry would be the next one.
func TestLogAddOfAnInvalidEntry(t *testing.T) {
	logs := [][]impl.Entry{nil, {}, logOf("1 1 text 11 'a'"), logOf("2 1 text 11 'a'", "3 1 text 11 'a'"), grownLog(3, 39), grownLog(3, 40), lonelyLog(1, 39), lonelyLog(1, 40)}
	for what, e := range notEntries() {
		for _, l := range logs {
			if after, got := impl.LogAdd(l, e); got != -1 || len(after) != 0 {
				t.Errorf("%s: LogAdd(%v, %v) = %v, %d", what, l, e, after, got)
			}
		}
	}
	for _, l := range logs {
		for who := 1; who <= 3; who++ {
			e := impl.Entry{Who: who, Seq: impl.LogSeq(l, who) + 1, Op: makeOp(made[who%3+1][0], 1, 0, "")}
			if after, got := impl.LogAdd(l, e); got != -1 || len(after) != 0 {
				t.Errorf("LogAdd(%v, %v) = %v, %d", l, e, after, got)
			}
		}
	}
}

// A nil log and an empty one are the same.
func TestNoEntries(t *testing.T) {
	for _, l := range [][]impl.Entry{nil, {}, make([]impl.Entry, 0, 50), grownLog(1, 40)[:0]} {
		if !impl.LogOk(l) {
			t.Errorf("%#v is not a log", l)
		}
		for who := -1; who <= 5; who++ {
			if got := impl.LogSeq(l, who); got != 0 {
				t.Errorf("LogSeq of %d = %d", who, got)
			}
		}
		for _, e := range smallEntries(40) {
			after, got := impl.LogAdd(l, e)
			if e.Seq == 1 && (got != 1 || !slices.Equal(after, []impl.Entry{e})) || e.Seq > 1 && (got != -1 || len(after) != 0) {
				t.Errorf("LogAdd of %v = %v, %d", e, after, got)
			}
		}
	}
}

func TestLogsAreNotModified(t *testing.T) {
	logs := [][]impl.Entry{nil, logOf("1 1 make 11 1 0 'a'"), grownLog(4, 12), grownLog(4, 39), grownLog(4, 40), lonelyLog(2, 40)}
	for _, l := range notLogs() {
		logs = append(logs, l)
	}
	bad := notEntries()
	for _, l := range logs {
		untouchedLog(t, l, func(l []impl.Entry) {
			impl.LogOk(l)
			impl.LogTree(l)
			for who := -1; who <= 4; who++ {
				impl.LogSeq(l, who)
			}
			for _, e := range append(slices.Clone(l), largeEntries(l)...) {
				impl.LogAdd(l, e)
			}
			for _, e := range bad {
				impl.LogAdd(l, e)
			}
		})
	}
}

// What LogAdd returns is new memory, also if nothing is added, and up to its capacity.
func TestLogAddGivesNewMemory(t *testing.T) {
	for _, l := range [][]impl.Entry{nil, logOf("1 1 make 11 1 0 'a'", "2 1 text 11 'b'"), grownLog(4, 12), grownLog(4, 39), grownLog(4, 40)} {
		for _, e := range append(largeEntries(l), impl.Entry{}, entryOf(4, 1, "text 11 'a'")) {
			// The spare capacity is where an entry would come that is added without a copy.
			arg := append(make([]impl.Entry, 0, 64), l...)
			first, n := impl.LogAdd(arg, e)
			kept := slices.Clone(first)
			second, _ := impl.LogAdd(arg, e)
			spoil(second)
			if !slices.Equal(arg, l) || !slices.Equal(first, kept) {
				t.Errorf("LogAdd of %v: after writing to one result the log is %v and the other result %v", e, arg, first)
			}
			if again, m := impl.LogAdd(arg, e); m != n || !slices.Equal(again, kept) {
				t.Errorf("LogAdd of %v: after writing to one result another one is %v, %d", e, again, m)
			}
			spoil(arg)
			if !slices.Equal(first, kept) {
				t.Errorf("LogAdd of %v: after writing to the log the result is %v", e, first)
			}
		}
	}
}

// Two logs that grow out of one do not write over each other.
func TestLogsGrowApart(t *testing.T) {
	l, _ := impl.LogAdd(nil, entryOf(1, 1, "make 11 1 0 'a'"))
	for seq := 2; seq <= 40; seq++ {
		one, two := entryOf(1, seq, "text 11 'a'"), entryOf(1, seq, "text 11 'b'")
		first, n := impl.LogAdd(l, one)
		second, m := impl.LogAdd(l, two)
		if n != 1 || m != 1 || !slices.Equal(first, append(slices.Clone(l), one)) || !slices.Equal(second, append(slices.Clone(l), two)) {
			t.Fatalf("two logs out of %v are %v and %v", l, first, second)
		}
		l = first
	}
}

func TestLogTreeGivesNewMemory(t *testing.T) {
	for _, l := range [][]impl.Entry{nil, logOf("1 1 text 11 'a'"), logOf("1 1 make 11 1 0 'a'", "2 1 text 11 'b'"), grownLog(4, 40)} {
		first, second := impl.LogTree(l), impl.LogTree(l)
		kept := slices.Clone(first)
		for i := range second[:cap(second)] {
			second[:cap(second)][i] = impl.Row{Id: -9, Depth: -9, Text: "spoiled"}
		}
		if !slices.Equal(first, kept) || !slices.Equal(impl.LogTree(l), kept) {
			t.Errorf("after writing to one outline of %v the other is %v", l, first)
		}
		spoil(l)
		if !slices.Equal(first, kept) {
			t.Errorf("after writing to the log its outline is %v", first)
		}
	}
}
