package tests

import (
	"math"
	"slices"
	"strings"
	"testing"

	"loop.example/plashet/impl"
)

// The editing commands that name a row, by what they are called in messages.
var keys = map[string]func([]impl.Row, int) (impl.Op, bool){
	"KeyIn":   impl.KeyIn,
	"KeyOut":  impl.KeyOut,
	"KeyGone": impl.KeyGone,
}

// aheadIndex is the index of the previous sibling, or -1.
func aheadIndex(t []impl.Row, i int) int {
	for j := i - 1; j >= 0 && t[j].Depth >= t[i].Depth; j-- {
		if t[j].Depth == t[i].Depth {
			return j
		}
	}
	return -1
}

// lastKid is the number of the last child, or 0.
func lastKid(t []impl.Row, i int) int {
	last := 0
	for j := i + 1; j < end(t, i); j++ {
		if t[j].Depth == t[i].Depth+1 {
			last = t[j].Id
		}
	}
	return last
}

// rootIndex is the index of the root at or before a row.
func rootIndex(t []impl.Row, i int) int {
	for t[i].Depth > 0 {
		i--
	}
	return i
}

// wantKey is what an editing command has to return for a valid outline, read off the list of rows.
func wantKey(name string, t []impl.Row, id int) (impl.Op, bool) {
	i := place(t, id)
	if i < 0 || t[i].Depth == 0 {
		return impl.Op{}, false
	}
	switch name {
	case "KeyIn":
		if ahead := aheadIndex(t, i); ahead >= 0 {
			return moveOp(id, t[ahead].Id, lastKid(t, ahead)), true
		}
	case "KeyOut":
		if up := upIndex(t, i); t[up].Depth > 0 {
			return moveOp(id, t[upIndex(t, up)].Id, t[up].Id), true
		}
	case "KeyGone":
		if t[rootIndex(t, i)].Id != 2 {
			return moveOp(id, 2, 0), true
		}
	}
	return impl.Op{}, false
}

// wantBack is what KeyBack has to return for valid arguments, read off the list of rows.
func wantBack(t []impl.Row, o impl.Op) (impl.Op, bool) {
	if slices.Equal(wantDo(t, o), t) {
		return impl.Op{}, false
	}
	i := place(t, o.Id)
	switch o.Kind {
	case impl.OpMake:
		return moveOp(o.Id, 2, 0), true
	case impl.OpText:
		return textOp(o.Id, t[i].Text), true
	}
	at := 0
	if ahead := aheadIndex(t, i); ahead >= 0 {
		at = t[ahead].Id
	}
	return moveOp(o.Id, t[upIndex(t, i)].Id, at), true
}

// eachKey goes over outlines and the numbers of their created rows.
func eachKey(call func(t []impl.Row, id int)) {
	for _, t := range someOutlines() {
		for _, r := range t {
			if r.Depth > 0 {
				call(t, r.Id)
			}
		}
	}
}

// P34, P35, P37: the commands on each row of one outline, as they are written.
func TestKeysWrittenOut(t *testing.T) {
	tree := rowsOf("1", ".11", "..12", "..13", "...21", "..14", ".15", ".16", "..22", ".23", "2", ".24", "..25", ".26", "3", ".31", "..32", ".33")
	for name, want := range map[string]map[int]string{
		// The previous sibling of 13 and 16 has no child, that of 15 has several, and the others have one.
		"KeyIn": {13: "move 13 12 0", 14: "move 14 13 21", 15: "move 15 11 14", 16: "move 16 15 0", 23: "move 23 16 22", 26: "move 26 24 25", 33: "move 33 31 32"},
		// 12 is a first child, 13 a middle one, 14 a last one, and the others only ones.
		"KeyOut":  {12: "move 12 1 11", 13: "move 13 1 11", 14: "move 14 1 11", 21: "move 21 11 13", 22: "move 22 1 16", 25: "move 25 2 24", 32: "move 32 3 31"},
		"KeyGone": {11: "move 11 2 0", 12: "move 12 2 0", 13: "move 13 2 0", 21: "move 21 2 0", 14: "move 14 2 0", 15: "move 15 2 0", 16: "move 16 2 0", 22: "move 22 2 0", 23: "move 23 2 0", 31: "move 31 2 0", 32: "move 32 2 0", 33: "move 33 2 0"},
	} {
		for _, id := range rowNumbers() {
			o, ok := keys[name](tree, id)
			if got := impl.OpShow(o); got != want[id] || ok != (want[id] != "") {
				t.Errorf("%s of %d = %v, %v, want %q", name, id, o, ok, want[id])
			}
		}
	}
}

// P34, P35, P37: the outline after each command.
func TestAfterKeysWrittenOut(t *testing.T) {
	before := []string{"1", ".11 a", "..21", "..22 b", "...31 d", "..23", ".12", ".13 c", "2", ".14", "3", ".15", "..16"}
	for _, c := range []struct {
		name  string
		id    int
		after string
	}{
		{"KeyIn", 12, "1 .11_a ..21 ..22_b ...31_d ..23 ..12 .13_c 2 .14 3 .15 ..16"},
		{"KeyIn", 13, "1 .11_a ..21 ..22_b ...31_d ..23 .12 ..13_c 2 .14 3 .15 ..16"},
		{"KeyIn", 22, "1 .11_a ..21 ...22_b ....31_d ..23 .12 .13_c 2 .14 3 .15 ..16"},
		{"KeyIn", 23, "1 .11_a ..21 ..22_b ...31_d ...23 .12 .13_c 2 .14 3 .15 ..16"},
		{"KeyOut", 21, "1 .11_a ..22_b ...31_d ..23 .21 .12 .13_c 2 .14 3 .15 ..16"},
		{"KeyOut", 22, "1 .11_a ..21 ..23 .22_b ..31_d .12 .13_c 2 .14 3 .15 ..16"},
		{"KeyOut", 23, "1 .11_a ..21 ..22_b ...31_d .23 .12 .13_c 2 .14 3 .15 ..16"},
		{"KeyOut", 31, "1 .11_a ..21 ..22_b ..31_d ..23 .12 .13_c 2 .14 3 .15 ..16"},
		{"KeyOut", 16, "1 .11_a ..21 ..22_b ...31_d ..23 .12 .13_c 2 .14 3 .15 .16"},
		{"KeyGone", 11, "1 .12 .13_c 2 .11_a ..21 ..22_b ...31_d ..23 .14 3 .15 ..16"},
		{"KeyGone", 22, "1 .11_a ..21 ..23 .12 .13_c 2 .22_b ..31_d .14 3 .15 ..16"},
		{"KeyGone", 15, "1 .11_a ..21 ..22_b ...31_d ..23 .12 .13_c 2 .15 ..16 .14 3"},
	} {
		o, ok := keys[c.name](rowsOf(before...), c.id)
		after := strings.ReplaceAll(strings.ReplaceAll(c.after, " ", "\n"), "_", " ") + "\n"
		if got := impl.TreeText(impl.OpDo(rowsOf(before...), o)); got != after || !ok {
			t.Errorf("%s of %d gives %q, want %q", c.name, c.id, got, after)
		}
	}
}

// P34, P35, P37: the commands of all outlines, as the document has them, also where they are not possible.
func TestKeysAsStated(t *testing.T) {
	t.Parallel()
	for _, tree := range someOutlines() {
		for _, id := range rowNumbers() {
			for name, key := range keys {
				got, ok := key(tree, id)
				if want, wantOk := wantKey(name, tree, id); got != want || ok != wantOk {
					t.Fatalf("%s(%v, %d) = %v, %v, want %v, %v", name, tree, id, got, ok, want, wantOk)
				}
			}
		}
	}
}

// P34: after OpDo of KeyIn, the row is the last child of its previous sibling; it fails only for a first child.
func TestKeyInMakesALastChild(t *testing.T) {
	t.Parallel()
	eachKey(func(tree []impl.Row, id int) {
		ahead, _ := impl.TreeAhead(tree, id)
		o, ok := impl.KeyIn(tree, id)
		if ok != (ahead != 0) {
			t.Fatalf("KeyIn(%v, %d) gives %v", tree, id, ok)
		}
		if !ok {
			return
		}
		want := append(impl.TreeKids(tree, ahead), id)
		if kids := impl.TreeKids(impl.OpDo(tree, o), ahead); !slices.Equal(kids, want) {
			t.Fatalf("after %v in %v the children of %d are %v", o, tree, ahead, kids)
		}
	})
}

// P35: after OpDo of KeyOut, the row is directly after its former parent; it fails only if that is a root.
func TestKeyOutComesRightBehindTheParent(t *testing.T) {
	t.Parallel()
	eachKey(func(tree []impl.Row, id int) {
		up, _ := impl.TreeUp(tree, id)
		o, ok := impl.KeyOut(tree, id)
		if ok == slices.Contains(roots, up) {
			t.Fatalf("KeyOut(%v, %d) gives %v", tree, id, ok)
		}
		if !ok {
			return
		}
		over, _ := impl.TreeUp(tree, up)
		want := impl.TreeKids(tree, over)
		want = slices.Insert(want, slices.Index(want, up)+1, id)
		if kids := impl.TreeKids(impl.OpDo(tree, o), over); !slices.Equal(kids, want) {
			t.Fatalf("after %v in %v the children of %d are %v", o, tree, over, kids)
		}
	})
}

// P36: OpDo of KeyIn and then of KeyOut restores the outline.
func TestInAndOutRestores(t *testing.T) {
	t.Parallel()
	eachKey(func(tree []impl.Row, id int) {
		in, ok := impl.KeyIn(tree, id)
		if !ok {
			return
		}
		between := impl.OpDo(tree, in)
		out, ok := impl.KeyOut(between, id)
		if after := impl.OpDo(between, out); !ok || !slices.Equal(after, tree) {
			t.Fatalf("%d in %v goes in and out: %v", id, tree, after)
		}
	})
}

// P37: after OpDo of KeyGone, the row and its descendants are under RootTrash; it fails only if they are already.
func TestKeyGoneTakesAllToTheTrash(t *testing.T) {
	t.Parallel()
	eachKey(func(tree []impl.Row, id int) {
		o, ok := impl.KeyGone(tree, id)
		if ok == impl.TreeUnder(tree, id, impl.RootTrash) {
			t.Fatalf("KeyGone(%v, %d) gives %v", tree, id, ok)
		}
		if !ok {
			return
		}
		after := impl.OpDo(tree, o)
		for _, r := range tree {
			below := impl.TreeUnder(tree, r.Id, id)
			want := below || impl.TreeUnder(tree, r.Id, impl.RootTrash)
			if impl.TreeUnder(after, r.Id, impl.RootTrash) != want || impl.TreeUnder(after, r.Id, id) != below {
				t.Fatalf("OpDo(%v, %v) = %v, with %d at the wrong place", tree, o, after, r.Id)
			}
		}
		if again, ok := impl.KeyGone(after, id); ok || again != (impl.Op{}) {
			t.Fatalf("KeyGone(%v, %d) = %v once more", after, id, again)
		}
	})
}

// P37: all rows in one chain, thrown away at each of them.
func TestKeyGoneOfADeepSubtree(t *testing.T) {
	for _, root := range roots {
		tree := chain(root)
		for i, id := range createdNumbers() {
			o, ok := impl.KeyGone(tree, id)
			if ok != (root != impl.RootTrash) {
				t.Errorf("KeyGone of %d below %d gives %v", id, root, ok)
			}
			if !ok {
				continue
			}
			after := impl.OpDo(tree, o)
			from := place(after, impl.RootTrash)
			if below := end(after, from) - from - 1; below != len(createdNumbers())-i || after[from+1].Id != id {
				t.Errorf("OpDo(%v, %v) = %v", tree, o, after)
			}
		}
	}
}

// P38, P39: the undoing of each kind of change, and of all that changes nothing.
func TestKeyBackWrittenOut(t *testing.T) {
	tree := rowsOf("1", ".11 a", "..21", "..22 bb", "...31 d", ".12", ".13 c", "2", ".14", "3", ".15", ".23")
	for change, want := range map[string]string{
		// Another text, and the present one.
		"text 11 'b'": "text 11 'a'", "text 11 ''": "text 11 'a'", "text 12 'dcba'": "text 12 ''", "text 31 'dd'": "text 31 'd'", "text 14 'a'": "text 14 ''",
		"text 11 'a'": "", "text 12 ''": "", "text 22 'bb'": "",
		// A text of a row that does not exist.
		"text 16 'a'": "", "text 16 ''": "",
		// A new row, wherever it comes, also into the trash, and one that exists.
		"make 16 1 0 'a'": "move 16 2 0", "make 16 1 13 ''": "move 16 2 0", "make 16 36 0 ''": "move 16 2 0", "make 16 16 0 ''": "move 16 2 0",
		"make 16 2 0 'a'": "move 16 2 0", "make 16 2 14 'a'": "move 16 2 0", "make 16 14 0 ''": "move 16 2 0",
		"make 11 1 0 'a'": "", "make 11 2 0 'b'": "", "make 14 36 0 ''": "",
		// Moves of a first, a middle and a last child.
		"move 11 2 0": "move 11 1 0", "move 12 2 14": "move 12 1 11", "move 13 11 22": "move 13 1 12", "move 22 1 0": "move 22 11 21",
		"move 31 3 15": "move 31 22 0", "move 14 1 12": "move 14 2 0", "move 15 1 0": "move 15 3 0", "move 23 12 0": "move 23 3 15",
		// Moves among the same siblings.
		"move 11 1 13": "move 11 1 0", "move 12 1 0": "move 12 1 11", "move 13 1 11": "move 13 1 12", "move 12 1 13": "move 12 1 11",
		// Moves to the place where the row is, by itself or because what they name is not there.
		"move 11 1 0": "", "move 12 1 11": "", "move 13 1 12": "", "move 31 22 0": "", "move 14 2 0": "", "move 11 1 11": "",
		"move 11 1 22": "", "move 11 1 36": "", "move 21 11 14": "",
		// Moves behind what is no sibling put the row in front.
		"move 12 1 12": "move 12 1 11", "move 12 1 22": "move 12 1 11", "move 13 1 36": "move 13 1 12",
		// Moves into the own subtree.
		"move 11 11 0": "", "move 11 22 0": "", "move 11 31 0": "", "move 12 12 13": "",
		// Moves to a parent that does not exist, which change nothing for the first child of RootFound.
		"move 11 36 0": "move 11 1 0", "move 13 36 15": "move 13 1 12", "move 23 36 0": "move 23 3 15", "move 23 36 15": "move 23 3 15",
		"move 15 36 0": "", "move 15 36 23": "",
		// Moves of a row that does not exist.
		"move 16 1 0": "", "move 16 16 0": "", "move 16 36 0": "",
	} {
		o, read := impl.OpRead(change)
		back, ok := impl.KeyBack(tree, o)
		if impl.OpShow(back) != want || ok != (want != "") || !read {
			t.Errorf("KeyBack of %s = %v, %v, want %q", change, back, ok, want)
		}
		if !ok && back != (impl.Op{}) {
			t.Errorf("KeyBack of %s = %v and false", change, back)
		}
	}
}

// P38, P39: the undoing of all changes, as the document has it.
func TestKeyBackAsStated(t *testing.T) {
	t.Parallel()
	eachChange(7, func(tree []impl.Row, o impl.Op) {
		got, ok := impl.KeyBack(tree, o)
		if want, wantOk := wantBack(tree, o); got != want || ok != wantOk {
			t.Fatalf("KeyBack(%v, %v) = %v, %v, want %v, %v", tree, o, got, ok, want, wantOk)
		}
	})
}

// P38: OpDo of OpText or OpMove and then of KeyBack restores the outline; a created row is moved to the trash.
func TestUndone(t *testing.T) {
	t.Parallel()
	eachChange(7, func(tree []impl.Row, o impl.Op) {
		back, ok := impl.KeyBack(tree, o)
		if !ok {
			return
		}
		undone := impl.OpDo(impl.OpDo(tree, o), back)
		want := tree
		if o.Kind == impl.OpMake {
			trash := place(tree, impl.RootTrash)
			want = slices.Insert(slices.Clone(tree), trash+1, impl.Row{Id: o.Id, Depth: 1, Text: o.Text})
		}
		if !slices.Equal(undone, want) {
			t.Fatalf("%v in %v, undone by %v: %v", o, tree, back, undone)
		}
	})
}

// P39: KeyBack succeeds if and only if OpDo of the change changes the outline.
func TestKeyBackOfWhatChanges(t *testing.T) {
	t.Parallel()
	succeeded, failed := map[int]int{}, map[int]int{}
	eachChange(7, func(tree []impl.Row, o impl.Op) {
		back, ok := impl.KeyBack(tree, o)
		if ok == slices.Equal(impl.OpDo(tree, o), tree) || impl.OpOk(back) != ok {
			t.Fatalf("KeyBack(%v, %v) = %v, %v", tree, o, back, ok)
		}
		if ok {
			succeeded[o.Kind]++
		} else {
			failed[o.Kind]++
		}
	})
	for _, kind := range []int{impl.OpMake, impl.OpText, impl.OpMove} {
		if succeeded[kind] < 1000 || failed[kind] < 1000 {
			t.Errorf("of kind %d only %d changes could be undone and %d could not", kind, succeeded[kind], failed[kind])
		}
	}
}

// P39: a text that is the present one, and a move to the present place, cannot be undone, for any row.
func TestKeyBackOfNothing(t *testing.T) {
	t.Parallel()
	eachKey(func(tree []impl.Row, id int) {
		up, _ := impl.TreeUp(tree, id)
		ahead, _ := impl.TreeAhead(tree, id)
		text := tree[place(tree, id)].Text
		for _, o := range []impl.Op{
			textOp(id, text), moveOp(id, up, ahead), moveOp(id, id, 0), makeOp(id, up, ahead, text), makeOp(id, impl.RootTrash, 0, "abc"),
		} {
			if back, ok := impl.KeyBack(tree, o); back != (impl.Op{}) || ok {
				t.Fatalf("KeyBack(%v, %v) = %v, %v", tree, o, back, ok)
			}
		}
	})
}

// P40: for OpMove and OpText, undoing the undo gives the outline after the change.
func TestUndoneTwice(t *testing.T) {
	t.Parallel()
	eachChange(7, func(tree []impl.Row, o impl.Op) {
		back, ok := impl.KeyBack(tree, o)
		if !ok || o.Kind == impl.OpMake {
			return
		}
		after := impl.OpDo(tree, o)
		again, ok := impl.KeyBack(after, back)
		if got := impl.OpDo(impl.OpDo(after, back), again); !ok || !slices.Equal(got, after) {
			t.Fatalf("%v in %v, undone by %v and that by %v: %v", o, tree, back, again, got)
		}
	})
}

// P41: OpDo of KeyGone and then of its KeyBack restores the outline.
func TestGoneAndBackRestores(t *testing.T) {
	t.Parallel()
	eachKey(func(tree []impl.Row, id int) {
		gone, ok := impl.KeyGone(tree, id)
		if !ok {
			return
		}
		back, ok := impl.KeyBack(tree, gone)
		if after := impl.OpDo(impl.OpDo(tree, gone), back); !ok || !slices.Equal(after, tree) {
			t.Fatalf("%d in %v goes and comes back: %v", id, tree, after)
		}
	})
}

// P42: after OpDo of KeyIn, the row and its descendants are one level deeper, in the same order; all other depths are unchanged.
func TestKeyInIsOneLevelDeeper(t *testing.T) {
	t.Parallel()
	eachKey(func(tree []impl.Row, id int) {
		o, ok := impl.KeyIn(tree, id)
		if !ok {
			return
		}
		// The rows keep their order as a whole, because the row comes behind all that precedes it.
		want := slices.Clone(tree)
		from := place(tree, id)
		for i := from; i < end(tree, from); i++ {
			want[i].Depth++
		}
		if after := impl.OpDo(tree, o); !slices.Equal(after, want) {
			t.Fatalf("OpDo(%v, %v) = %v", tree, o, after)
		}
	})
}

// P43: OpDo of KeyOut of a last child and then of KeyIn restores the outline.
func TestOutAndInRestoresALastChild(t *testing.T) {
	t.Parallel()
	tried := 0
	eachKey(func(tree []impl.Row, id int) {
		up, _ := impl.TreeUp(tree, id)
		kids := impl.TreeKids(tree, up)
		out, ok := impl.KeyOut(tree, id)
		if !ok || kids[len(kids)-1] != id {
			return
		}
		between := impl.OpDo(tree, out)
		in, ok := impl.KeyIn(between, id)
		if after := impl.OpDo(between, in); !ok || !slices.Equal(after, tree) {
			t.Fatalf("%d in %v goes out and in: %v", id, tree, after)
		}
		tried++
	})
	if tried < 1000 {
		t.Errorf("only %d last children went out", tried)
	}
}

// checkNoKey fails if a command on a row is possible, or is not the zero value.
func checkNoKey(t *testing.T, what string, tree []impl.Row, id int) {
	t.Helper()
	for name, key := range keys {
		if o, ok := key(tree, id); o != (impl.Op{}) || ok {
			t.Errorf("%s: %s(%v, %d) = %v, %v", what, name, tree, id, o, ok)
		}
	}
}

// P34, P35, P37, P39: in an invalid outline, an empty one and none, no command is possible.
func TestNoKeyInAnInvalidOutline(t *testing.T) {
	changes := changesOf([]int{11, 12, 36}, []int{1, 3, 11, 36}, []int{0, 11, 12}, []string{"", "ab"})
	for what, tree := range notOutlines() {
		for _, id := range append(rowNumbers(), 0, -1, 4, 10, 17, math.MaxInt, math.MinInt) {
			checkNoKey(t, what, tree, id)
		}
		for _, o := range changes {
			if back, ok := impl.KeyBack(tree, o); back != (impl.Op{}) || ok {
				t.Errorf("%s: KeyBack(%v, %v) = %v, %v", what, tree, o, back, ok)
			}
		}
	}
}

// P34, P35, P37: roots, numbers that are no row's, and created rows that are not there.
func TestNoKeyOnAnInvalidRow(t *testing.T) {
	outlines := [][]impl.Row{
		impl.TreeNew(), rowsOf("1", ".11", "..12", ".21", "2", "3"), rowsOf("1", "2", "3", ".36 a", ".35"),
		rowsOf("1", "2", ".36 a", "..12", "3"), grownOutline(3), chain(impl.RootDoc),
	}
	for _, tree := range outlines {
		for _, id := range append(numbers(), rowNumbers()...) {
			if slices.Contains(roots, id) || place(tree, id) < 0 {
				checkNoKey(t, "no such row", tree, id)
			}
		}
	}
}

// P39: an invalid change cannot be undone, in any outline.
func TestKeyBackOfAnInvalidChange(t *testing.T) {
	outlines := [][]impl.Row{impl.TreeNew(), rowsOf("1", ".11 a", "..21", ".12", "2", "3"), chain(impl.RootDoc)}
	for _, tree := range notOutlines() {
		outlines = append(outlines, tree)
	}
	for what, o := range notChanges() {
		for _, tree := range outlines {
			if back, ok := impl.KeyBack(tree, o); back != (impl.Op{}) || ok {
				t.Errorf("%s: KeyBack(%v, %v) = %v, %v", what, tree, o, back, ok)
			}
		}
	}
}

func TestKeysModifyNoOutline(t *testing.T) {
	trees := [][]impl.Row{impl.TreeNew(), chain(impl.RootDoc), grownOutline(5), rowsOf("1", ".11 a", "..21", ".12", "2", "3")}
	for _, tree := range notOutlines() {
		trees = append(trees, tree)
	}
	for i, tree := range trees {
		untouched(t, tree, func(tree []impl.Row) {
			for _, id := range append(rowNumbers(), 0, -1, 17) {
				for _, key := range keys {
					key(tree, id)
				}
			}
			for _, o := range bigChanges(int64(i)) {
				impl.KeyBack(tree, o)
			}
			for _, o := range notChanges() {
				impl.KeyBack(tree, o)
			}
		})
	}
}

// What a command returned stays as it is, whatever becomes of the outline, and another call gives the same.
func TestKeysKeepNothing(t *testing.T) {
	lines := []string{"1", ".11 a", "..21", "...31 d", ".12 bc", "2", ".14", "3"}
	tree := rowsOf(lines...)
	var calls []func() (impl.Op, bool)
	for _, key := range keys {
		for _, id := range []int{11, 21, 31, 12, 14, 1, 36} {
			calls = append(calls, func() (impl.Op, bool) { return key(tree, id) })
		}
	}
	for _, o := range []impl.Op{textOp(12, "d"), textOp(11, "a"), moveOp(12, 2, 0), moveOp(11, 31, 0), makeOp(16, 1, 0, "b"), makeOp(11, 1, 0, "")} {
		calls = append(calls, func() (impl.Op, bool) { return impl.KeyBack(tree, o) })
	}
	for i, call := range calls {
		first, ok := call()
		text := impl.OpShow(first)
		for i := range tree {
			tree[i] = impl.Row{Id: -9, Depth: -9, Text: "spoiled"}
		}
		if spoiled, ok := call(); spoiled != (impl.Op{}) || ok {
			t.Errorf("call %d of a spoiled outline gives %v", i, spoiled)
		}
		copy(tree, rowsOf(lines...))
		again, okAgain := call()
		if impl.OpShow(first) != text || again != first || okAgain != ok {
			t.Errorf("call %d gives %v, %v and then %v, %v", i, first, ok, again, okAgain)
		}
	}
}
