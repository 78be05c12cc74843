package tests

import (
	"math/rand"
	"regexp"
	"slices"
	"strconv"
	"strings"
	"testing"

	"loop.example/plashet/impl"
)

// Short names, so that a change fits on a line of a table.
func makeOp(id, up, at int, text string) impl.Op {
	return impl.Op{Kind: impl.OpMake, Id: id, Up: up, At: at, Text: text}
}

func textOp(id int, text string) impl.Op {
	return impl.Op{Kind: impl.OpText, Id: id, Text: text}
}

func moveOp(id, up, at int) impl.Op {
	return impl.Op{Kind: impl.OpMove, Id: id, Up: up, At: at}
}

// changesOf are those of all three kinds that can be put together.
func changesOf(ids, ups, ats []int, texts []string) []impl.Op {
	var all []impl.Op
	for _, id := range ids {
		for _, text := range texts {
			all = append(all, textOp(id, text))
		}
		for _, up := range ups {
			for _, at := range ats {
				all = append(all, moveOp(id, up, at))
				for _, text := range texts {
					all = append(all, makeOp(id, up, at, text))
				}
			}
		}
	}
	return all
}

// createdNumbers are those of all rows but the roots.
func createdNumbers() []int {
	return rowNumbers()[len(roots):]
}

// validChanges are all that differ in more than the letters of a text.
func validChanges() []impl.Op {
	return changesOf(createdNumbers(), rowNumbers(), append(createdNumbers(), 0), goodTexts)
}

// allTexts are all strings of up to four letters.
func allTexts() []string {
	all := []string{""}
	for from := 0; len(all[from]) < 4; from++ {
		for _, letter := range []string{"a", "b", "c", "d"} {
			all = append(all, all[from]+letter)
		}
	}
	return all
}

// notChanges are invalid ones, by what is wrong with them.
func notChanges() map[string]impl.Op {
	all := map[string]impl.Op{
		"the zero value":            {},
		"no kind":                   {Id: 11, Up: 1, Text: "a"},
		"a make without an Id":      makeOp(0, 1, 0, ""),
		"a make without an Up":      makeOp(11, 0, 0, ""),
		"a text without an Id":      textOp(0, "a"),
		"a move without an Id":      moveOp(0, 1, 0),
		"a move without an Up":      moveOp(11, 0, 0),
		"a text with an Up":         {Kind: impl.OpText, Id: 11, Up: 1, Text: "a"},
		"a text with an At":         {Kind: impl.OpText, Id: 11, At: 12, Text: "a"},
		"a text with an invalid Up": {Kind: impl.OpText, Id: 11, Up: -1, Text: "a"},
		"a text with Up and At":     {Kind: impl.OpText, Id: 11, Up: 1, At: 12, Text: "a"},
		"a move with a text":        {Kind: impl.OpMove, Id: 11, Up: 1, Text: "a"},
		"a move with a bad text":    {Kind: impl.OpMove, Id: 11, Up: 1, Text: "e"},
	}
	for _, kind := range append([]int{-3, -2, -1, 0, 4, 5, 10}, farNumbers...) {
		name := "kind " + strconv.Itoa(kind)
		all[name+" as a make"] = impl.Op{Kind: kind, Id: 11, Up: 1, At: 12, Text: "a"}
		all[name+" as a text"] = impl.Op{Kind: kind, Id: 11, Text: "a"}
		all[name+" as a move"] = impl.Op{Kind: kind, Id: 11, Up: 1}
	}
	for i, text := range badTexts {
		name := "bad text " + strconv.Itoa(i)
		all[name+" of a make"] = makeOp(11, 1, 0, text)
		all[name+" of a text"] = textOp(11, text)
	}
	for _, n := range append([]int{-11, -1, 4, 9, 10, 17, 20, 27, 30, 37, 40, 41}, farNumbers...) {
		name := "number " + strconv.Itoa(n)
		all[name+" as Up of a make"] = makeOp(11, n, 0, "a")
		all[name+" as Up of a move"] = moveOp(11, n, 0)
		all[name+" as Id of a make"] = makeOp(n, 1, 0, "a")
		all[name+" as Id of a text"] = textOp(n, "a")
		all[name+" as Id of a move"] = moveOp(n, 1, 0)
		all[name+" as At of a make"] = makeOp(11, 1, n, "a")
		all[name+" as At of a move"] = moveOp(11, 1, n)
	}
	for _, root := range roots {
		name := "root " + strconv.Itoa(root)
		all[name+" as Id of a make"] = makeOp(root, 1, 0, "a")
		all[name+" as Id of a text"] = textOp(root, "a")
		all[name+" as Id of a move"] = moveOp(root, 1, 0)
		all[name+" as At of a make"] = makeOp(11, 1, root, "a")
		all[name+" as At of a move"] = moveOp(11, 1, root)
	}
	return all
}

// wantWhere is what OpWhere has to return for valid arguments, read off the list of rows.
func wantWhere(t []impl.Row, o impl.Op) (int, int, bool) {
	exists := place(t, o.Id) >= 0
	if o.Kind == impl.OpText || o.Kind == impl.OpMake && exists || o.Kind == impl.OpMove && !exists {
		return 0, 0, false
	}
	up := place(t, o.Up)
	if o.Kind == impl.OpMove {
		for i := up; i >= 0; i = upIndex(t, i) {
			if t[i].Id == o.Id {
				return 0, 0, false
			}
		}
	}
	if up < 0 {
		return impl.RootFound, 0, true
	}
	if at := place(t, o.At); at >= 0 && o.At != o.Id && upIndex(t, at) == up {
		return o.Up, o.At, true
	}
	return o.Up, 0, true
}

// end is the index behind a row and its descendants.
func end(t []impl.Row, i int) int {
	j := i + 1
	for j < len(t) && t[j].Depth > t[i].Depth {
		j++
	}
	return j
}

// wantDo is what OpDo has to return for valid arguments, by cutting and inserting in the list of rows.
func wantDo(t []impl.Row, o impl.Op) []impl.Row {
	t = slices.Clone(t)
	i := place(t, o.Id)
	if o.Kind == impl.OpText && i >= 0 {
		t[i].Text = o.Text
	}
	up, at, ok := wantWhere(t, o)
	if !ok {
		return t
	}
	part := []impl.Row{{Id: o.Id, Text: o.Text}}
	if o.Kind == impl.OpMove {
		part = slices.Clone(t[i:end(t, i)])
		t = slices.Delete(t, i, end(t, i))
	}
	to := place(t, up) + 1
	if at != 0 {
		to = end(t, place(t, at))
	}
	shift := t[place(t, up)].Depth + 1 - part[0].Depth
	for j := range part {
		part[j].Depth += shift
	}
	return slices.Insert(t, to, part...)
}

// bigChanges are some for an outline with any rows; the same seed gives the same.
func bigChanges(seed int64) []impl.Op {
	random := rand.New(rand.NewSource(seed))
	pick := func(from []int) int { return from[random.Intn(len(from))] }
	var all []impl.Op
	for range 40 {
		id, up, at := pick(createdNumbers()), pick(rowNumbers()), pick(append(createdNumbers(), 0))
		text := goodTexts[random.Intn(len(goodTexts))]
		all = append(all, makeOp(id, up, at, text), textOp(id, text), moveOp(id, up, at))
	}
	return all
}

// eachChange goes over outlines and changes of them: of every step-th small outline, with one row that is there in none, and of all large ones.
func eachChange(step int, call func(t []impl.Row, o impl.Op)) {
	changes := changesOf([]int{11, 12, 21, 36, 31}, []int{1, 2, 3, 11, 12, 21, 36, 31}, []int{0, 11, 12, 21, 36, 31}, []string{"b"})
	small := smallOutlines()
	for i := 0; i < len(small); i += step {
		for _, o := range changes {
			call(small[i], o)
		}
	}
	large := [][]impl.Row{impl.TreeNew(), chain(impl.RootDoc), chain(impl.RootTrash), chain(impl.RootFound)}
	for seed := range int64(50) {
		large = append(large, grownOutline(seed))
	}
	for i, t := range large {
		for _, o := range bigChanges(int64(i)) {
			call(t, o)
		}
	}
}

func TestOpConstants(t *testing.T) {
	if impl.OpMake != 1 || impl.OpText != 2 || impl.OpMove != 3 {
		t.Errorf("kinds are %d %d %d", impl.OpMake, impl.OpText, impl.OpMove)
	}
}

func TestOpShowWrittenOut(t *testing.T) {
	for text, o := range map[string]impl.Op{
		"make 11 1 0 'ab'":     makeOp(11, 1, 0, "ab"),
		"make 11 1 0 ''":       makeOp(11, 1, 0, ""),
		"make 36 26 16 'abcd'": makeOp(36, 26, 16, "abcd"),
		"make 11 11 11 'd'":    makeOp(11, 11, 11, "d"),
		"text 21 ''":           textOp(21, ""),
		"text 21 'c'":          textOp(21, "c"),
		"text 36 'dcba'":       textOp(36, "dcba"),
		"move 11 3 0":          moveOp(11, 3, 0),
		"move 31 2 12":         moveOp(31, 2, 12),
		"move 12 12 12":        moveOp(12, 12, 12),
	} {
		if got := impl.OpShow(o); got != text || !impl.OpOk(o) {
			t.Errorf("OpShow(%v) = %q, want %q", o, got, text)
		}
		if got, ok := impl.OpRead(text); got != o || !ok {
			t.Errorf("OpRead(%q) = %v, %v, want %v", text, got, ok, o)
		}
	}
}

// P15: a valid change is read back from its text. P27: valid changes have the same text only if they are equal.
func TestChangesAreReadBack(t *testing.T) {
	t.Parallel()
	seen := map[string]impl.Op{}
	all := validChanges()
	all = append(all, changesOf([]int{11, 36}, []int{1, 36}, []int{0, 11}, allTexts())...)
	for _, o := range all {
		text := impl.OpShow(o)
		if got, ok := impl.OpRead(text); got != o || !ok || !impl.OpOk(o) {
			t.Fatalf("OpRead(%q) = %v, %v, want %v", text, got, ok, o)
		}
		if before, ok := seen[text]; ok && before != o {
			t.Fatalf("%v and %v are both %q", before, o, text)
		}
		seen[text] = o
	}
	if len(allTexts()) != 1+4+16+64+256 {
		t.Errorf("%d texts", len(allTexts()))
	}
}

var changeText = func() *regexp.Regexp {
	made := "[123][1-6]"
	place := made + " ([123]|" + made + ") (0|" + made + ")"
	return regexp.MustCompile("^(make " + place + " '[a-d]{0,4}'|text " + made + " '[a-d]{0,4}'|move " + place + ")$")
}()

// checkRead fails if a text is read that is none, or is not read, or comes back as another one.
func checkRead(t *testing.T, text string) {
	t.Helper()
	o, ok := impl.OpRead(text)
	if ok != changeText.MatchString(text) {
		t.Errorf("OpRead(%.40q) = %v, %v", text, o, ok)
	}
	if ok && (!impl.OpOk(o) || impl.OpShow(o) != text) {
		t.Errorf("OpRead(%.40q) = %v, whose text is %q", text, o, impl.OpShow(o))
	}
	if !ok && o != (impl.Op{}) {
		t.Errorf("OpRead(%.40q) = %v and false", text, o)
	}
}

// P16: what is read is valid and has the text that was read, also if a byte of a text is another one, is missing, or is one too many.
func TestReadIsOneWay(t *testing.T) {
	for _, o := range []impl.Op{
		makeOp(11, 1, 0, ""), makeOp(11, 1, 0, "a"), makeOp(36, 26, 16, "abcd"), makeOp(12, 12, 12, "dd"),
		textOp(11, ""), textOp(36, "dcba"), textOp(21, "c"),
		moveOp(11, 3, 0), moveOp(36, 26, 16), moveOp(12, 12, 12), moveOp(31, 2, 11),
	} {
		text := impl.OpShow(o)
		checkRead(t, text)
		for i := range len(text) + 1 {
			checkRead(t, text[:i])
			checkRead(t, text[i:])
			for b := range 256 {
				checkRead(t, text[:i]+string([]byte{byte(b)})+text[i:])
				if i < len(text) {
					checkRead(t, text[:i]+string([]byte{byte(b)})+text[i+1:])
				}
			}
			for j := i; j <= len(text); j++ {
				checkRead(t, text[:i]+text[j:])
				checkRead(t, text[:j]+text[i:])
			}
		}
	}
}

// P16: every sequence of up to five of these words, right or not.
func TestReadWords(t *testing.T) {
	words := []string{"make", "text", "move", "0", "1", "11", "17", "''", "'ab'", ""}
	var grow func(text string, left int)
	grow = func(text string, left int) {
		checkRead(t, text)
		if left == 0 {
			return
		}
		for _, word := range words {
			grow(text+" "+word, left-1)
		}
	}
	for _, word := range words {
		grow(word, 4)
	}
}

func TestReadNothingElse(t *testing.T) {
	for _, text := range []string{
		"", " ", "'", "''", "make", "text", "move", "make ", "what 11 1 0 'a'",
		"Make 11 1 0 'a'", "MOVE 11 1 0", "maketh 11 1 0 'a'", "mak 11 1 0 'a'",
		"make 011 1 0 'a'", "make 11 01 0 'a'", "make 11 1 00 'a'", "text 011 'a'", "move 011 1 0", "move 11 01 0", "move 11 1 012",
		"make +11 1 0 'a'", "move 11 +1 0", "move 11 1 +0", "move 11 1 -0", "move -11 1 0", "move 1_1 1 0", "move 0x0b 1 0", "move 11.0 1 0",
		"make  11 1 0 'a'", " make 11 1 0 'a'", "make 11 1 0 'a' ", "make 11 1 0  'a'", "make 11 1 0 ' a'", "make 11 1 0 'a b'",
		"text  11 'a'", " text 11 'a'", "text 11 'a' ", "move 11  1 0", " move 11 1 0", "move 11 1 0 ",
		"make\t11 1 0 'a'", "move 11 1 0\n", "move 11 1\n0", "text 11\u00a0'a'",
		"make 11 1 'a'", "make 11 1 0", "make 1 0 'a'", "make 11 1 0 'a' 'a'", "make 11 1 0 0 'a'", "make 'a' 11 1 0",
		"text 11", "text 'a'", "text 11 1 'a'", "text 11 1 0 'a'", "text 11 'a' 'b'", "move 11 1", "move 11", "move 11 1 0 0", "move 11 1 0 ''", "move 11 1 0 'a'",
		"make 11 1 0 'a", "make 11 1 0 a'", "make 11 1 0 a", "make 11 1 0 '", "make 11 1 0 ", "text 11 '", "text 11 '''", "text 11 ''''", "text 11 \"a\"", "text 11 `a`", "text 11 a",
		"text 11 'e'", "text 11 'aaaaa'", "text 11 'A'", "text 11 'a'b'", "text 11 'ab\x00'", "text 11 'é'",
		"make 1 1 0 ''", "text 1 'a'", "move 3 1 0", "make 11 40 0 ''", "move 11 0 0", "move 11 4 0", "move 17 1 0", "text 10 ''", "move 11 1 1", "move 11 1 3", "make 11 1 2 ''", "move 11 1 17",
		"move 11 1 18446744073709551616", "move 4294967307 1 0", "move 11 1 4294967296",
	} {
		if changeText.MatchString(text) {
			t.Errorf("%q is a text of a change", text)
		}
		checkRead(t, text)
	}
}

// A text of up to 24 bytes is looked at and a longer one is not; neither is ever that of a change.
func TestReadLongTexts(t *testing.T) {
	for _, start := range []string{"make 36 26 16 'abcd'", "text 36 'abcd'", "move 36 26 16", "", "make 36 26 16 'aaaa"} {
		for _, filler := range []string{" ", "a", "0", "'", "\x00"} {
			for _, length := range []int{21, 22, 23, 24, 25, 26, 48, 256 + 20, 1 << 16} {
				text := start + strings.Repeat(filler, length-len(start))
				if _, ok := impl.OpRead(text); ok || len(text) != length {
					t.Errorf("OpRead(%.40q), of %d bytes, succeeds", text, len(text))
				}
				checkRead(t, text)
			}
		}
	}
	for _, text := range []string{"make 00036 26 16 'abcd'", "make 000036 26 16 'abcd'", "make 0000036 26 16 'abcd'", "make 36 26 16     'abcd'"} {
		checkRead(t, text)
	}
}

// P17: a valid change is invalid for a root, with an unknown kind, or after a sibling number that is none.
func TestChangesSpoiled(t *testing.T) {
	t.Parallel()
	spoil := func(before, o impl.Op) {
		if impl.OpOk(o) || impl.OpShow(o) != "" {
			t.Fatalf("%v is valid, and so is %v", before, o)
		}
	}
	rows := creator()
	for i, o := range validChanges() {
		if !impl.OpOk(o) {
			t.Fatalf("OpOk(%v) = false", o)
		}
		for _, root := range roots {
			other := o
			other.Id = root
			spoil(o, other)
		}
		for _, kind := range []int{-1, 0, 4, 1 << 32} {
			other := o
			other.Kind = kind
			spoil(o, other)
		}
		if i%37 != 0 {
			continue
		}
		for _, n := range numbers() {
			if _, ok := rows[n]; n == 0 || ok && rows[n] != 0 {
				continue
			}
			other := o
			other.At = n
			spoil(o, other)
		}
	}
}

// P17: every field of every kind with every number.
func TestOpOkOfEveryNumber(t *testing.T) {
	rows := creator()
	for _, n := range numbers() {
		who, row := rows[n]
		created := row && who != 0
		for o, want := range map[impl.Op]bool{
			makeOp(n, 2, 12, "ab"):                                 created,
			textOp(n, "ab"):                                        created,
			moveOp(n, 2, 12):                                       created,
			makeOp(21, n, 12, "ab"):                                row,
			moveOp(21, n, 12):                                      row,
			makeOp(21, 2, n, "ab"):                                 created || n == 0,
			moveOp(21, 2, n):                                       created || n == 0,
			{Kind: impl.OpText, Id: 21, Up: n, Text: "ab"}:         n == 0,
			{Kind: impl.OpText, Id: 21, At: n, Text: "ab"}:         n == 0,
			{Kind: n, Id: 21, Up: 1, At: 11, Text: "ab"}:           n == impl.OpMake,
			{Kind: n, Id: 21, Text: "ab"}:                          n == impl.OpText,
			{Kind: n, Id: 21, Up: 1, At: 11}:                       n == impl.OpMake || n == impl.OpMove,
			{Kind: impl.OpMove, Id: 21, Up: 2, At: n, Text: "a"}:   false,
			{Kind: impl.OpText, Id: 21, Up: 1, At: n, Text: "abc"}: false,
		} {
			if got := impl.OpOk(o); got != want {
				t.Errorf("OpOk(%v) = %v", o, got)
			}
		}
	}
}

// P17: a text is one of up to four letters in every kind that has one, and empty in the other.
func TestOpOkOfTexts(t *testing.T) {
	for _, text := range append(allTexts(), badTexts...) {
		want := slices.Contains(allTexts(), text)
		if impl.OpOk(makeOp(11, 1, 0, text)) != want || impl.OpOk(textOp(11, text)) != want {
			t.Errorf("a change with the text %.9q: want %v", text, want)
		}
		if impl.OpOk(impl.Op{Kind: impl.OpMove, Id: 11, Up: 1, Text: text}) != (text == "") {
			t.Errorf("a move with the text %.9q", text)
		}
	}
}

// P17, P18, P19: of an invalid change there is no text and no outline, and it has no place.
func TestNothingComesOfAnInvalidChange(t *testing.T) {
	outlines := [][]impl.Row{impl.TreeNew(), rowsOf("1", ".11 a", "..21", ".12", "2", "3"), chain(impl.RootDoc)}
	for _, o := range notOutlines() {
		outlines = append(outlines, o)
	}
	for what, o := range notChanges() {
		if impl.OpOk(o) {
			t.Errorf("%s: OpOk(%v) = true", what, o)
		}
		if text := impl.OpShow(o); text != "" {
			t.Errorf("%s: OpShow(%v) = %q", what, o, text)
		}
		for _, tree := range outlines {
			if got := impl.OpDo(tree, o); len(got) != 0 {
				t.Errorf("%s: OpDo(%v, %v) = %v", what, tree, o, got)
			}
			if up, at, ok := impl.OpWhere(tree, o); up != 0 || at != 0 || ok {
				t.Errorf("%s: OpWhere(%v, %v) = %d, %d, %v", what, tree, o, up, at, ok)
			}
		}
	}
}

// P18, P19: in an invalid outline nothing is done and nothing has a place.
func TestNothingComesOfAnInvalidOutline(t *testing.T) {
	changes := changesOf([]int{11, 12, 36}, []int{1, 3, 11, 36}, []int{0, 11, 12}, []string{"", "ab"})
	for what, tree := range notOutlines() {
		for _, o := range changes {
			if got := impl.OpDo(tree, o); len(got) != 0 {
				t.Errorf("%s: OpDo(%v, %v) = %v", what, tree, o, got)
			}
			if up, at, ok := impl.OpWhere(tree, o); up != 0 || at != 0 || ok {
				t.Errorf("%s: OpWhere(%v, %v) = %d, %d, %v", what, tree, o, up, at, ok)
			}
		}
	}
}

func TestOpDoWrittenOut(t *testing.T) {
	before := []string{"1", ".11 a", "..21", "...31 d", ".12", "..22", ".13", "2", ".14", "3", ".15"}
	for _, c := range []struct {
		change string
		after  string
	}{
		{"make 16 1 0 'b'", "1 .16_b .11_a ..21 ...31_d .12 ..22 .13 2 .14 3 .15"},
		{"make 16 1 11 'b'", "1 .11_a ..21 ...31_d .16_b .12 ..22 .13 2 .14 3 .15"},
		{"make 16 1 13 ''", "1 .11_a ..21 ...31_d .12 ..22 .13 .16 2 .14 3 .15"},
		{"make 16 1 21 ''", "1 .16 .11_a ..21 ...31_d .12 ..22 .13 2 .14 3 .15"},
		{"make 16 1 36 ''", "1 .16 .11_a ..21 ...31_d .12 ..22 .13 2 .14 3 .15"},
		{"make 16 1 16 ''", "1 .16 .11_a ..21 ...31_d .12 ..22 .13 2 .14 3 .15"},
		{"make 16 31 0 'abcd'", "1 .11_a ..21 ...31_d ....16_abcd .12 ..22 .13 2 .14 3 .15"},
		{"make 16 3 15 ''", "1 .11_a ..21 ...31_d .12 ..22 .13 2 .14 3 .15 .16"},
		{"make 16 36 15 'c'", "1 .11_a ..21 ...31_d .12 ..22 .13 2 .14 3 .16_c .15"},
		{"make 16 16 0 'c'", "1 .11_a ..21 ...31_d .12 ..22 .13 2 .14 3 .16_c .15"},
		{"make 11 2 0 'b'", "1 .11_a ..21 ...31_d .12 ..22 .13 2 .14 3 .15"},
		{"text 11 'dcba'", "1 .11_dcba ..21 ...31_d .12 ..22 .13 2 .14 3 .15"},
		{"text 11 ''", "1 .11 ..21 ...31_d .12 ..22 .13 2 .14 3 .15"},
		{"text 16 'b'", "1 .11_a ..21 ...31_d .12 ..22 .13 2 .14 3 .15"},
		{"move 11 2 14", "1 .12 ..22 .13 2 .14 .11_a ..21 ...31_d 3 .15"},
		{"move 11 22 0", "1 .12 ..22 ...11_a ....21 .....31_d .13 2 .14 3 .15"},
		{"move 31 1 12", "1 .11_a ..21 .12 ..22 .31_d .13 2 .14 3 .15"},
		{"move 12 1 13", "1 .11_a ..21 ...31_d .13 .12 ..22 2 .14 3 .15"},
		{"move 12 1 11", "1 .11_a ..21 ...31_d .12 ..22 .13 2 .14 3 .15"},
		{"move 12 1 12", "1 .12 ..22 .11_a ..21 ...31_d .13 2 .14 3 .15"},
		{"move 11 1 11", "1 .11_a ..21 ...31_d .12 ..22 .13 2 .14 3 .15"},
		{"move 12 1 22", "1 .12 ..22 .11_a ..21 ...31_d .13 2 .14 3 .15"},
		{"move 11 11 0", "1 .11_a ..21 ...31_d .12 ..22 .13 2 .14 3 .15"},
		{"move 11 21 0", "1 .11_a ..21 ...31_d .12 ..22 .13 2 .14 3 .15"},
		{"move 11 31 0", "1 .11_a ..21 ...31_d .12 ..22 .13 2 .14 3 .15"},
		{"move 11 36 0", "1 .12 ..22 .13 2 .14 3 .11_a ..21 ...31_d .15"},
		{"move 15 36 0", "1 .11_a ..21 ...31_d .12 ..22 .13 2 .14 3 .15"},
		{"move 16 1 0", "1 .11_a ..21 ...31_d .12 ..22 .13 2 .14 3 .15"},
		{"move 16 36 0", "1 .11_a ..21 ...31_d .12 ..22 .13 2 .14 3 .15"},
	} {
		o, ok := impl.OpRead(c.change)
		after := strings.ReplaceAll(strings.ReplaceAll(c.after, " ", "\n"), "_", " ") + "\n"
		if got := impl.TreeText(impl.OpDo(rowsOf(before...), o)); got != after || !ok {
			t.Errorf("OpDo of %s gives %q, want %q", c.change, got, after)
		}
	}
}

func TestOpWhereWrittenOut(t *testing.T) {
	tree := rowsOf("1", ".11 a", "..21", "...31 d", ".12", "..22", ".13", "2", "3", ".15")
	for change, want := range map[string][3]int{
		"make 16 1 0 'a'": {1, 0, 1}, "make 16 1 11 ''": {1, 11, 1}, "make 16 1 13 ''": {1, 13, 1}, "make 16 1 21 ''": {1, 0, 1},
		"make 16 1 15 ''": {1, 0, 1}, "make 16 1 36 ''": {1, 0, 1}, "make 16 1 16 ''": {1, 0, 1}, "make 16 16 0 ''": {3, 0, 1},
		"make 16 36 15 ''": {3, 0, 1}, "make 16 36 0 ''": {3, 0, 1}, "make 16 3 15 ''": {3, 15, 1}, "make 16 12 22 ''": {12, 22, 1},
		"make 11 1 0 ''": {0, 0, 0}, "make 11 36 0 ''": {0, 0, 0}, "text 11 ''": {0, 0, 0}, "text 16 ''": {0, 0, 0},
		"move 11 1 0": {1, 0, 1}, "move 11 1 11": {1, 0, 1}, "move 12 1 12": {1, 0, 1}, "move 12 1 11": {1, 11, 1}, "move 12 1 13": {1, 13, 1},
		"move 13 11 21": {11, 21, 1}, "move 13 21 11": {21, 0, 1}, "move 11 12 22": {12, 22, 1}, "move 11 2 21": {2, 0, 1},
		"move 11 11 0": {0, 0, 0}, "move 11 21 0": {0, 0, 0}, "move 11 31 12": {0, 0, 0}, "move 21 11 0": {11, 0, 1}, "move 21 31 0": {0, 0, 0},
		"move 11 36 0": {3, 0, 1}, "move 15 36 15": {3, 0, 1}, "move 16 1 0": {0, 0, 0}, "move 16 16 0": {0, 0, 0}, "move 16 36 0": {0, 0, 0},
	} {
		o, read := impl.OpRead(change)
		up, at, ok := impl.OpWhere(tree, o)
		if up != want[0] || at != want[1] || ok != (want[2] == 1) || !read {
			t.Errorf("OpWhere of %s = %d, %d, %v, want %v", change, up, at, ok, want)
		}
	}
}

// P18 to P23: all of what a change does, as the document has it.
func TestOpDoAsStated(t *testing.T) {
	t.Parallel()
	eachChange(2, func(tree []impl.Row, o impl.Op) {
		if got, want := impl.OpDo(tree, o), wantDo(tree, o); !slices.Equal(got, want) {
			t.Fatalf("OpDo(%v, %v) = %v, want %v", tree, o, got, want)
		}
		wantUp, wantAt, wantOk := wantWhere(tree, o)
		if up, at, ok := impl.OpWhere(tree, o); up != wantUp || at != wantAt || ok != wantOk {
			t.Fatalf("OpWhere(%v, %v) = %d, %d, %v", tree, o, up, at, ok)
		}
	})
}

// ids are the numbers of the rows of an outline, ascending.
func ids(t []impl.Row) []int {
	var all []int
	for _, r := range t {
		all = append(all, r.Id)
	}
	slices.Sort(all)
	return all
}

// P18: OpDo gives a valid outline; no row is lost, and at most one is created, by OpMake.
func TestNoRowIsLost(t *testing.T) {
	t.Parallel()
	eachChange(7, func(tree []impl.Row, o impl.Op) {
		after := impl.OpDo(tree, o)
		want := ids(tree)
		if o.Kind == impl.OpMake && place(tree, o.Id) < 0 {
			want = append(want, o.Id)
			slices.Sort(want)
		}
		if !impl.TreeOk(after) || !isOutline(after) || !slices.Equal(ids(after), want) {
			t.Fatalf("OpDo(%v, %v) = %v", tree, o, after)
		}
	})
}

// P19: after OpDo of OpMake or OpMove, TreeUp and TreeAhead of the row are the results of OpWhere; if it fails, the outline is unchanged.
func TestOpDoPutsWhereOpWhereSays(t *testing.T) {
	t.Parallel()
	eachChange(7, func(tree []impl.Row, o impl.Op) {
		if o.Kind == impl.OpText {
			return
		}
		after := impl.OpDo(tree, o)
		up, at, ok := impl.OpWhere(tree, o)
		if !ok {
			if !slices.Equal(after, tree) || up != 0 || at != 0 {
				t.Fatalf("OpDo(%v, %v) = %v; OpWhere = %d, %d, %v", tree, o, after, up, at, ok)
			}
			return
		}
		gotUp, hasUp := impl.TreeUp(after, o.Id)
		gotAt, hasAt := impl.TreeAhead(after, o.Id)
		if gotUp != up || gotAt != at || !hasUp || !hasAt {
			t.Fatalf("OpDo(%v, %v) puts the row under %d behind %d, want %d and %d", tree, o, gotUp, gotAt, up, at)
		}
	})
}

// P20: OpWhere gives the stated parent, if it exists, after the stated sibling, if that is one, and otherwise as the first child; without the parent it gives RootFound.
func TestOpWhereIsAsNearAsCanBe(t *testing.T) {
	t.Parallel()
	eachChange(7, func(tree []impl.Row, o impl.Op) {
		up, at, ok := impl.OpWhere(tree, o)
		if !ok {
			return
		}
		want := [2]int{o.Up, 0}
		if _, exists := impl.TreeUp(tree, o.Up); !exists {
			want = [2]int{impl.RootFound, 0}
		} else if o.At != o.Id && slices.Contains(impl.TreeKids(tree, o.Up), o.At) {
			want[1] = o.At
		}
		if want != [2]int{up, at} {
			t.Fatalf("OpWhere(%v, %v) = %d, %d, want %v", tree, o, up, at, want)
		}
	})
}

// P20, P21: OpWhere fails for exactly what the document lists.
func TestOpWhereFails(t *testing.T) {
	t.Parallel()
	eachChange(7, func(tree []impl.Row, o impl.Op) {
		exists := slices.Contains(ids(tree), o.Id)
		want := false
		switch o.Kind {
		case impl.OpMake:
			want = !exists
		case impl.OpMove:
			want = exists && !impl.TreeUnder(tree, o.Up, o.Id)
		}
		if _, _, ok := impl.OpWhere(tree, o); ok != want {
			t.Fatalf("OpWhere(%v, %v) gives %v", tree, o, ok)
		}
	})
}

// P21: OpWhere of moving a row to itself or a descendant fails; after OpDo no row is its own descendant.
func TestNoLoop(t *testing.T) {
	t.Parallel()
	for _, tree := range someOutlines() {
		for _, row := range tree[1:] {
			for _, under := range tree {
				if row.Depth == 0 || !impl.TreeUnder(tree, under.Id, row.Id) {
					continue
				}
				for _, at := range []int{0, row.Id, 21} {
					o := moveOp(row.Id, under.Id, at)
					if up, at, ok := impl.OpWhere(tree, o); up != 0 || at != 0 || ok {
						t.Fatalf("OpWhere(%v, %v) = %d, %d, %v", tree, o, up, at, ok)
					}
					if after := impl.OpDo(tree, o); !slices.Equal(after, tree) {
						t.Fatalf("OpDo(%v, %v) = %v", tree, o, after)
					}
				}
			}
		}
	}
	eachChange(29, func(tree []impl.Row, o impl.Op) {
		after := impl.OpDo(tree, o)
		for _, r := range after {
			for up, _ := impl.TreeUp(after, r.Id); up != 0; up, _ = impl.TreeUp(after, up) {
				if up == r.Id {
					t.Fatalf("%d is under itself after OpDo(%v, %v)", up, tree, o)
				}
			}
		}
	})
}

// P22: after OpDo of OpMove, the row has the same descendants in the same order, with depths shifted alike; all other rows keep their parents.
func TestMoveTakesTheWholeSubtree(t *testing.T) {
	t.Parallel()
	eachChange(7, func(tree []impl.Row, o impl.Op) {
		from := place(tree, o.Id)
		if o.Kind != impl.OpMove || from < 0 {
			return
		}
		after := impl.OpDo(tree, o)
		to := place(after, o.Id)
		part, moved := tree[from:end(tree, from)], after[to:end(after, to)]
		if len(part) != len(moved) {
			t.Fatalf("OpDo(%v, %v) = %v", tree, o, after)
		}
		for i := range part {
			if moved[i].Id != part[i].Id || moved[i].Text != part[i].Text || moved[i].Depth-part[i].Depth != moved[0].Depth-part[0].Depth {
				t.Fatalf("OpDo(%v, %v) = %v", tree, o, after)
			}
		}
		for _, r := range tree {
			before, _ := impl.TreeUp(tree, r.Id)
			if up, ok := impl.TreeUp(after, r.Id); r.Id != o.Id && (up != before || !ok) {
				t.Fatalf("OpDo(%v, %v) = %v, and %d is now under %d", tree, o, after, r.Id, up)
			}
		}
		// The rows that stay keep their order and are as they were.
		rest := slices.Concat(tree[:from], tree[end(tree, from):])
		if !slices.Equal(rest, slices.Concat(after[:to], after[end(after, to):])) {
			t.Fatalf("OpDo(%v, %v) = %v", tree, o, after)
		}
	})
}

// P22: half of the rows, in one chain, under the end of a chain of the other half, and back.
func TestMoveOfADeepSubtreeUnderADeepRow(t *testing.T) {
	tree := rowsOf("1", "2", "3")
	for i, id := range createdNumbers()[:9] {
		tree = slices.Insert(tree, 1+i, impl.Row{Id: id, Depth: 1 + i})
	}
	for i, id := range createdNumbers()[9:] {
		tree = slices.Insert(tree, 11+i, impl.Row{Id: id, Depth: 1 + i})
	}
	first, last := createdNumbers()[9], createdNumbers()[8]
	deep := impl.OpDo(tree, moveOp(first, last, 0))
	for i, id := range createdNumbers() {
		if at := place(deep, id); at != 1+i || deep[at].Depth != 1+i {
			t.Errorf("row %d is at %d of %v", id, at, deep)
		}
	}
	if back := impl.OpDo(deep, moveOp(first, impl.RootTrash, 0)); !slices.Equal(back, tree) || !impl.TreeOk(deep) {
		t.Errorf("moved and moved back: %v, and before %v", back, tree)
	}
	if under := impl.OpDo(tree, moveOp(createdNumbers()[0], 36, 0)); !impl.TreeOk(under) || under[len(under)-2].Depth != 18 {
		t.Errorf("the other way round: %v", under)
	}
}

// P19, P22: a move to the place where the row is changes nothing.
func TestMoveToTheSamePlace(t *testing.T) {
	t.Parallel()
	for _, tree := range someOutlines() {
		for _, r := range tree {
			if r.Depth == 0 {
				continue
			}
			up, _ := impl.TreeUp(tree, r.Id)
			at, _ := impl.TreeAhead(tree, r.Id)
			if after := impl.OpDo(tree, moveOp(r.Id, up, at)); !slices.Equal(after, tree) {
				t.Fatalf("OpDo(%v, %v) = %v", tree, moveOp(r.Id, up, at), after)
			}
		}
	}
}

// P23: after OpDo of OpText, the row has the text and all else is unchanged; without the row nothing changes.
func TestTextChangesOneRow(t *testing.T) {
	t.Parallel()
	for _, tree := range someOutlines() {
		for _, id := range createdNumbers() {
			for _, text := range []string{"", "b", "dddd"} {
				want := slices.Clone(tree)
				if i := place(tree, id); i >= 0 {
					want[i].Text = text
				}
				if after := impl.OpDo(tree, textOp(id, text)); !slices.Equal(after, want) {
					t.Fatalf("OpDo(%v, %v) = %v", tree, textOp(id, text), after)
				}
			}
		}
	}
}

// P24: applying a change twice equals applying it once.
func TestTwiceIsOnce(t *testing.T) {
	t.Parallel()
	eachChange(7, func(tree []impl.Row, o impl.Op) {
		once := impl.OpDo(tree, o)
		if twice := impl.OpDo(once, o); !slices.Equal(once, twice) {
			t.Fatalf("%v in %v: once %v, twice %v", o, tree, once, twice)
		}
	})
}

// P25: OpDo of a change and of a text of another existing row commute.
func TestTextsCommute(t *testing.T) {
	t.Parallel()
	eachChange(29, func(tree []impl.Row, o impl.Op) {
		for _, r := range tree {
			if r.Depth == 0 || r.Id == o.Id {
				continue
			}
			text := textOp(r.Id, "adad")
			one, other := impl.OpDo(impl.OpDo(tree, o), text), impl.OpDo(impl.OpDo(tree, text), o)
			if !slices.Equal(one, other) || len(one) == 0 {
				t.Fatalf("%v and %v in %v: %v and %v", o, text, tree, one, other)
			}
		}
	})
}

// P26: the text of a change without its last byte is not the text of the same change; with a further blank it is none.
func TestTextsCutAndPadded(t *testing.T) {
	t.Parallel()
	for _, o := range validChanges() {
		text := impl.OpShow(o)
		if short, ok := impl.OpRead(text[:len(text)-1]); ok {
			t.Fatalf("OpRead(%q) = %v", text[:len(text)-1], short)
		}
		for i := range len(text) + 1 {
			if text != "" && (i == 0 || i == len(text) || text[i] == ' ') {
				if got, ok := impl.OpRead(text[:i] + " " + text[i:]); ok || got != (impl.Op{}) {
					t.Fatalf("%q with a blank at %d is %v", text, i, got)
				}
			}
		}
	}
}

// P28: after two moves of one row, it is where the second one alone puts it, if the place of the first does not matter to that.
func TestTheSecondMoveCounts(t *testing.T) {
	t.Parallel()
	eachChange(101, func(tree []impl.Row, first impl.Op) {
		if first.Kind != impl.OpMove {
			return
		}
		between := impl.OpDo(tree, first)
		for _, up := range []int{1, 2, 3, 11, 12, 21, 36, 31} {
			for _, at := range []int{0, 11, 12, 21, 31} {
				second := moveOp(first.Id, up, at)
				want := impl.OpDo(tree, second)
				if _, _, ok := impl.OpWhere(tree, second); !ok {
					want = between
				}
				if after := impl.OpDo(between, second); !slices.Equal(after, want) {
					t.Fatalf("%v and %v in %v: %v, want %v", first, second, tree, after, want)
				}
			}
		}
	})
}

// P29: creating a row and moving it to be the first child of another one equals creating it there.
func TestMakeAndMoveIsMakeThere(t *testing.T) {
	t.Parallel()
	eachChange(29, func(tree []impl.Row, o impl.Op) {
		if o.Kind != impl.OpMake || place(tree, o.Id) >= 0 {
			return
		}
		made := impl.OpDo(tree, o)
		for _, up := range rowNumbers() {
			if up == o.Id {
				continue
			}
			want := impl.OpDo(tree, makeOp(o.Id, up, 0, o.Text))
			if after := impl.OpDo(made, moveOp(o.Id, up, 0)); !slices.Equal(after, want) {
				t.Fatalf("%v in %v, moved under %d: %v, want %v", o, tree, up, after, want)
			}
		}
	})
}

// P30: after OpDo, the three roots have depth 0, in order, each once.
func TestRootsStay(t *testing.T) {
	t.Parallel()
	eachChange(7, func(tree []impl.Row, o impl.Op) {
		var found []int
		for _, r := range impl.OpDo(tree, o) {
			if r.Depth == 0 {
				found = append(found, r.Id)
			} else if r.Id <= impl.RootFound {
				t.Fatalf("OpDo(%v, %v) gives root %d a depth", tree, o, r.Id)
			}
		}
		if !slices.Equal(found, []int{1, 2, 3}) {
			t.Fatalf("OpDo(%v, %v) has the roots %v", tree, o, found)
		}
	})
}

// P31: after two texts for one row, it has the second one, and all else is unchanged.
func TestTheSecondTextCounts(t *testing.T) {
	t.Parallel()
	for _, tree := range someOutlines() {
		for _, r := range tree {
			if r.Depth == 0 {
				continue
			}
			for _, texts := range [][2]string{{"a", "b"}, {"abcd", ""}, {"", "d"}, {"c", "cccc"}, {"d", r.Text}} {
				want := slices.Clone(tree)
				want[place(tree, r.Id)].Text = texts[1]
				after := impl.OpDo(impl.OpDo(tree, textOp(r.Id, texts[0])), textOp(r.Id, texts[1]))
				if !slices.Equal(after, want) {
					t.Fatalf("texts %q of %d in %v: %v", texts, r.Id, tree, after)
				}
			}
		}
	}
}

// P32: OpDo of OpMake of an existing row changes nothing; a new row has the given text.
func TestMakeOfAnExistingAndOfANewRow(t *testing.T) {
	t.Parallel()
	for _, tree := range someOutlines() {
		for i, id := range createdNumbers() {
			for _, up := range []int{1, 3, 11, 36, id} {
				o := makeOp(id, up, 12, goodTexts[i%len(goodTexts)])
				after := impl.OpDo(tree, o)
				if place(tree, id) >= 0 {
					if !slices.Equal(after, tree) {
						t.Fatalf("OpDo(%v, %v) = %v", tree, o, after)
					}
					continue
				}
				if at := place(after, id); at < 0 || after[at].Text != o.Text || len(after) != len(tree)+1 {
					t.Fatalf("OpDo(%v, %v) = %v", tree, o, after)
				}
			}
		}
	}
}

// P33: OpWhere does not depend on texts, neither on those of rows nor on that of the change.
func TestOpWhereDoesNotSeeTexts(t *testing.T) {
	t.Parallel()
	eachChange(7, func(tree []impl.Row, o impl.Op) {
		up, at, ok := impl.OpWhere(tree, o)
		for _, text := range []string{"", "b", "dddd"} {
			other := slices.Clone(tree)
			for i := range other {
				if other[i].Depth > 0 {
					other[i].Text = text
				}
			}
			change := o
			if o.Kind == impl.OpMake {
				change.Text = text
			}
			gotUp, gotAt, gotOk := impl.OpWhere(other, change)
			if gotUp != up || gotAt != at || gotOk != ok {
				t.Fatalf("OpWhere(%v, %v) = %d, %d, %v, but with texts %q %d, %d, %v", tree, o, up, at, ok, text, gotUp, gotAt, gotOk)
			}
		}
	})
}

func TestChangesModifyNoOutline(t *testing.T) {
	trees := [][]impl.Row{impl.TreeNew(), chain(impl.RootDoc), grownOutline(5), rowsOf("1", ".11 a", "..21", ".12", "2", "3")}
	for _, tree := range notOutlines() {
		trees = append(trees, tree)
	}
	for i, tree := range trees {
		untouched(t, tree, func(tree []impl.Row) {
			for _, o := range bigChanges(int64(i)) {
				impl.OpDo(tree, o)
				impl.OpWhere(tree, o)
			}
			for _, o := range notChanges() {
				impl.OpDo(tree, o)
				impl.OpWhere(tree, o)
			}
		})
	}
}

// What OpDo returns is new memory, also if nothing changed, and up to its capacity.
func TestOpDoGivesNewMemory(t *testing.T) {
	lines := []string{"1", ".11 a", "..21", "...31 d", ".12", "2", ".14", "3"}
	for _, o := range []impl.Op{
		makeOp(16, 1, 11, "b"), makeOp(16, 36, 0, ""), makeOp(11, 1, 0, "b"), textOp(11, "b"), textOp(11, "a"), textOp(36, "b"),
		moveOp(11, 12, 0), moveOp(11, 1, 0), moveOp(11, 31, 0), moveOp(36, 1, 0), moveOp(14, 36, 0),
	} {
		tree := rowsOf(lines...)
		first := impl.OpDo(tree, o)
		kept := slices.Clone(first)
		second := impl.OpDo(tree, o)
		whole := second[:cap(second)]
		for i := range whole {
			whole[i] = impl.Row{Id: -9, Depth: -9, Text: "spoiled"}
		}
		if !slices.Equal(tree, rowsOf(lines...)) || !slices.Equal(first, kept) || !slices.Equal(impl.OpDo(tree, o), kept) {
			t.Errorf("%v: after writing to one result the outline is %v and the other result %v", o, tree, first)
		}
		for i := range tree {
			tree[i] = impl.Row{Id: -9, Depth: -9, Text: "spoiled"}
		}
		if !slices.Equal(first, kept) {
			t.Errorf("%v: after writing to the outline the result is %v", o, first)
		}
	}
}
