package tests

import (
	"math"
	"math/rand"
	"slices"
	"strings"
	"testing"

	"loop.example/plashet/impl"
)

// rowNumbers are those of all rows that can be.
func rowNumbers() []int {
	return slices.Concat(roots, made[1], made[2], made[3])
}

// rowsOf reads an outline that is written in lines, valid or not: dots, a number, and perhaps a text.
func rowsOf(lines ...string) []impl.Row {
	var t []impl.Row
	for _, line := range lines {
		name := strings.TrimLeft(line, ".")
		r := impl.Row{Depth: len(line) - len(name)}
		name, r.Text, _ = strings.Cut(name, " ")
		for _, c := range name {
			r.Id = 10*r.Id + int(c-'0')
		}
		t = append(t, r)
	}
	return t
}

// place is the index of a row, or -1.
func place(t []impl.Row, id int) int {
	return slices.IndexFunc(t, func(r impl.Row) bool { return r.Id == id })
}

// upIndex is the index of the last row before with a smaller depth, or -1.
func upIndex(t []impl.Row, i int) int {
	for j := i - 1; j >= 0; j-- {
		if t[j].Depth < t[i].Depth {
			return j
		}
	}
	return -1
}

// isOutline says whether rows are an outline, sentence by sentence as the document does.
func isOutline(t []impl.Row) bool {
	var inOrder []int
	for i, r := range t {
		if !impl.RowOk(r) || place(t, r.Id) != i {
			return false
		}
		if i > 0 && r.Depth-t[i-1].Depth > 1 {
			return false
		}
		if slices.Contains(roots, r.Id) {
			inOrder = append(inOrder, r.Id)
		}
	}
	return slices.Equal(inOrder, roots) && t[0].Id == impl.RootDoc
}

// smallOutlines are all with rows out of four, in any order and any place; texts differ from row to row.
func smallOutlines() [][]impl.Row {
	text := map[int]string{11: "", 12: "a", 21: "dcba", 36: "cc"}
	var all [][]impl.Row
	var grow func(t []impl.Row, seen int)
	grow = func(t []impl.Row, seen int) {
		if seen == len(roots) {
			all = append(all, slices.Clone(t))
		} else {
			grow(append(slices.Clip(t), impl.Row{Id: roots[seen]}), seen+1)
		}
		if len(t) == 0 {
			return
		}
		for _, id := range []int{11, 12, 21, 36} {
			for depth := 1; place(t, id) < 0 && depth <= t[len(t)-1].Depth+1; depth++ {
				grow(append(slices.Clip(t), impl.Row{Id: id, Depth: depth, Text: text[id]}), seen)
			}
		}
	}
	grow(nil, 0)
	return all
}

// chain has all created rows one under another, below one root.
func chain(root int) []impl.Row {
	var t []impl.Row
	for _, id := range roots {
		t = append(t, impl.Row{Id: id})
		if id == root {
			for i, row := range rowNumbers()[len(roots):] {
				t = append(t, impl.Row{Id: row, Depth: i + 1, Text: goodTexts[i%len(goodTexts)]})
			}
		}
	}
	return t
}

// grownOutline has up to all created rows in any order and place; the same seed gives the same.
func grownOutline(seed int64) []impl.Row {
	random := rand.New(rand.NewSource(seed))
	ids := rowNumbers()[len(roots):]
	random.Shuffle(len(ids), func(i, j int) { ids[i], ids[j] = ids[j], ids[i] })
	t := rowsOf("1", "2", "3")
	for _, id := range ids[:random.Intn(len(ids)+1)] {
		at := 1 + random.Intn(len(t))
		least := 1
		if at < len(t) {
			// The row that follows stays at most one level deeper.
			least = max(1, t[at].Depth-1)
		}
		depth := least + random.Intn(t[at-1].Depth+2-least)
		row := impl.Row{Id: id, Depth: depth, Text: goodTexts[random.Intn(len(goodTexts))]}
		t = slices.Insert(t, at, row)
	}
	return t
}

// someOutlines are valid ones: the edges that the document names, all small ones and many large ones.
func someOutlines() [][]impl.Row {
	all := [][]impl.Row{
		rowsOf("1", "2", "3"),
		rowsOf("1", ".11", "2", "3"),
		rowsOf("1", ".11 a", "..21", ".12", "2", "3"),
		rowsOf("1", ".11", "..12", "...13", "....14", ".15", "2", "3"),
		rowsOf("1", ".11", "..12", "...13", "2", ".21", "..22", "3", ".31", "..32", ".33"),
		rowsOf("1", ".31", ".21", ".11", "..12", "..13", "..14", ".15", "2", "3"),
		rowsOf("1", "2", ".11 abcd", "3"),
		rowsOf("1", "2", "3", ".36 d", "..35", "...34", "..33", "...32", ".31"),
		chain(impl.RootDoc), chain(impl.RootTrash), chain(impl.RootFound),
	}
	all = append(all, smallOutlines()...)
	for seed := range int64(300) {
		all = append(all, grownOutline(seed))
	}
	return all
}

// notOutlines are invalid ones, by what is wrong with them.
func notOutlines() map[string][]impl.Row {
	return map[string][]impl.Row{
		"nil":                            nil,
		"empty":                          {},
		"only the first root":            rowsOf("1"),
		"no first root":                  rowsOf("2", "3"),
		"no second root":                 rowsOf("1", ".11", "3"),
		"no third root":                  rowsOf("1", ".11", "2"),
		"no root":                        rowsOf(".11", "..12"),
		"first root twice":               rowsOf("1", "1", "2", "3"),
		"second root twice":              rowsOf("1", "2", ".11", "2", "3"),
		"third root twice":               rowsOf("1", "2", "3", "3"),
		"first root again at the end":    rowsOf("1", "2", "3", "1"),
		"roots turned around":            rowsOf("3", "2", "1"),
		"second root first":              rowsOf("2", "1", "3"),
		"third root before the second":   rowsOf("1", ".11", "3", "2"),
		"a row before the first root":    rowsOf(".11", "1", "2", "3"),
		"a row twice in one place":       rowsOf("1", ".11", ".11", "2", "3"),
		"a row under itself":             rowsOf("1", ".11", "..11", "2", "3"),
		"a row twice under two roots":    rowsOf("1", ".11", "2", ".11", "3"),
		"a row twice, with two texts":    rowsOf("1", ".11 a", "2", "3", ".11 b"),
		"a row twice, far apart":         rowsOf("1", ".36", "..12", "...13", ".14", "2", "3", ".36"),
		"a row that nobody creates":      rowsOf("1", ".17", "2", "3"),
		"a row of client 4":              rowsOf("1", ".41", "2", "3"),
		"number 0":                       rowsOf("1", ".0", "2", "3"),
		"number 4 as a root":             rowsOf("1", "2", "3", "4"),
		"a negative number":              {{Id: 1}, {Id: -11, Depth: 1}, {Id: 2}, {Id: 3}},
		"a very large number":            {{Id: 1}, {Id: math.MaxInt, Depth: 1}, {Id: 2}, {Id: 3}},
		"the least number":               {{Id: 1}, {Id: math.MinInt, Depth: 1}, {Id: 2}, {Id: 3}},
		"a letter too far":               rowsOf("1", ".11 e", "2", "3"),
		"a text too long":                rowsOf("1", ".11 aaaaa", "2", "3"),
		"a root with a text":             rowsOf("1", "2 a", "3"),
		"a root with a depth":            rowsOf("1", ".2", "3"),
		"a created row with depth 0":     rowsOf("1", "11", "2", "3"),
		"a negative depth":               {{Id: 1}, {Id: 11, Depth: -1}, {Id: 2}, {Id: 3}},
		"a very large depth":             {{Id: 1}, {Id: 11, Depth: math.MaxInt}, {Id: 2}, {Id: 3}},
		"the least depth":                {{Id: 1}, {Id: 11, Depth: math.MinInt}, {Id: 2}, {Id: 3}},
		"two levels below a root":        rowsOf("1", "..11", "2", "3"),
		"two levels below a row":         rowsOf("1", ".11", "...12", "2", "3"),
		"two levels below the last":      rowsOf("1", "2", "3", ".11", "...12"),
		"two levels down after going up": rowsOf("1", ".11", "..12", ".13", "...14", "2", "3"),
	}
}

// untouched calls with an outline that has spare capacity and fails if any of its memory was written to.
func untouched(t *testing.T, o []impl.Row, call func(o []impl.Row)) {
	t.Helper()
	mark := impl.Row{Id: -7, Depth: -7, Text: "mark"}
	whole := append(slices.Clone(o), mark, mark)
	before := slices.Clone(whole)
	call(whole[:len(o)])
	if !slices.Equal(whole, before) {
		t.Errorf("an argument was changed from %v to %v", before, whole)
	}
}

func TestTreeNew(t *testing.T) {
	o := impl.TreeNew()
	if !slices.Equal(o, []impl.Row{{Id: 1}, {Id: 2}, {Id: 3}}) || !impl.TreeOk(o) {
		t.Errorf("TreeNew() = %v", o)
	}
	if text := impl.TreeText(o); text != "1\n2\n3\n" {
		t.Errorf("its text is %q", text)
	}
	for _, root := range roots {
		if kids := impl.TreeKids(o, root); len(kids) != 0 {
			t.Errorf("TreeKids(%d) = %v", root, kids)
		}
	}
}

func TestTreeNewIsNewEachTime(t *testing.T) {
	first, second := impl.TreeNew(), impl.TreeNew()
	for i := range first[:cap(first)] {
		first[:cap(first)][i] = impl.Row{Id: 36, Depth: 9, Text: "d"}
	}
	if !slices.Equal(second, rowsOf("1", "2", "3")) || !slices.Equal(impl.TreeNew(), second) {
		t.Errorf("writing to one outline gave %v", second)
	}
}

// P4: the outlines that the document allows, and no row that breaks one of its rules.
func TestTreeOk(t *testing.T) {
	for _, o := range someOutlines() {
		if !isOutline(o) || !impl.TreeOk(o) {
			t.Fatalf("TreeOk(%v) = %v", o, impl.TreeOk(o))
		}
	}
	for what, o := range notOutlines() {
		if isOutline(o) || impl.TreeOk(o) {
			t.Errorf("%s: TreeOk(%v) = %v", what, o, impl.TreeOk(o))
		}
	}
}

// P4: every list of up to six rows out of these is an outline or not as the document says.
func TestTreeOkOfEveryShortList(t *testing.T) {
	rows := rowsOf("1", "2", "3", ".11", "..11", ".12 a", "..12", "...12 a")
	valid := 0
	var check func(o []impl.Row)
	check = func(o []impl.Row) {
		want := isOutline(o)
		if impl.TreeOk(o) != want {
			t.Fatalf("TreeOk(%v) = %v", o, !want)
		}
		if want {
			valid++
		}
		if len(o) == 6 {
			return
		}
		for _, r := range rows {
			check(append(slices.Clip(o), r))
		}
	}
	check(nil)
	if valid < 10 {
		t.Errorf("only %d outlines were met", valid)
	}
}

// P4: in a valid outline, every created row has a parent, one level higher, and no number occurs twice.
func TestTreeOkGivesEveryRowAParent(t *testing.T) {
	for _, o := range someOutlines() {
		count := map[int]int{}
		for i, r := range o {
			count[r.Id]++
			up, ok := impl.TreeUp(o, r.Id)
			if r.Depth == 0 {
				if up != 0 || !ok {
					t.Fatalf("TreeUp(%v, %d) = %d, %v", o, r.Id, up, ok)
				}
				continue
			}
			if j := upIndex(o, i); !ok || j < 0 || o[j].Id != up || o[j].Depth != r.Depth-1 {
				t.Fatalf("TreeUp(%v, %d) = %d, %v", o, r.Id, up, ok)
			}
		}
		for id, n := range count {
			if n != 1 {
				t.Fatalf("%v has %d %d times", o, id, n)
			}
		}
	}
}

// P4: with a row repeated anywhere, or a root missing, it is invalid.
func TestTreeOkWithARowTooManyOrTooFew(t *testing.T) {
	for _, o := range someOutlines() {
		for i, r := range o {
			for at := range len(o) + 1 {
				for _, depth := range []int{r.Depth, 1, 2} {
					again := impl.Row{Id: r.Id, Depth: depth, Text: r.Text}
					if impl.TreeOk(slices.Insert(slices.Clone(o), at, again)) {
						t.Fatalf("%v is valid with %v again at %d", o, again, at)
					}
				}
			}
			less := slices.Delete(slices.Clone(o), i, i+1)
			if got, want := impl.TreeOk(less), isOutline(less); got != want || r.Depth == 0 && got {
				t.Fatalf("TreeOk(%v) = %v", less, got)
			}
		}
	}
}

// P4: an invalid row makes an outline invalid, wherever it stands.
func TestTreeOkWithAnInvalidRow(t *testing.T) {
	o := rowsOf("1", ".11 a", "..12", "2", ".21", "3", ".31")
	for at := range o {
		for _, text := range badTexts {
			bad := slices.Clone(o)
			bad[at].Text = text
			if impl.TreeOk(bad) {
				t.Errorf("TreeOk is true with %.9q as a text at %d", text, at)
			}
		}
		for _, n := range numbers() {
			other := slices.Clone(o)
			other[at].Id = n
			if got := impl.TreeOk(other); got != isOutline(other) {
				t.Errorf("TreeOk(%v) = %v", other, got)
			}
			other = slices.Clone(o)
			other[at].Depth = n
			if got := impl.TreeOk(other); got != isOutline(other) {
				t.Errorf("TreeOk(%v) = %v", other, got)
			}
		}
	}
}

// P5: TreeUp of a row is the row whose TreeKids contains it, and no other TreeKids does.
func TestTreeUpAndTreeKids(t *testing.T) {
	for _, o := range someOutlines() {
		for _, r := range o {
			up, ok := impl.TreeUp(o, r.Id)
			if !ok {
				t.Fatalf("TreeUp(%v, %d) fails", o, r.Id)
			}
			for _, other := range o {
				holds := slices.Contains(impl.TreeKids(o, other.Id), r.Id)
				if holds != (other.Id == up) {
					t.Fatalf("TreeKids(%v, %d) = %v, but %d is under %d", o, other.Id, impl.TreeKids(o, other.Id), r.Id, up)
				}
			}
		}
	}
}

// P6: TreeKids lists the children in their order; TreeAhead of each is the previous one, and 0 for the first.
func TestTreeKidsInOrder(t *testing.T) {
	for _, o := range someOutlines() {
		for i, r := range o {
			var want []int
			for j := range o {
				if upIndex(o, j) == i {
					want = append(want, o[j].Id)
				}
			}
			kids := impl.TreeKids(o, r.Id)
			if !slices.Equal(kids, want) {
				t.Fatalf("TreeKids(%v, %d) = %v, want %v", o, r.Id, kids, want)
			}
			previous := 0
			for _, kid := range kids {
				if ahead, ok := impl.TreeAhead(o, kid); !ok || ahead != previous {
					t.Fatalf("TreeAhead(%v, %d) = %d, %v, want %d", o, kid, ahead, ok, previous)
				}
				previous = kid
			}
		}
	}
}

func TestTreeKidsWrittenOut(t *testing.T) {
	o := rowsOf("1", ".11", "..12", "...13", "....14", ".15", "..16", ".21", "2", "3", ".22")
	for id, want := range map[int][]int{1: {11, 15, 21}, 2: {}, 3: {22}, 11: {12}, 12: {13}, 13: {14}, 14: {}, 15: {16}, 16: {}, 21: {}, 22: {}} {
		if kids := impl.TreeKids(o, id); !slices.Equal(kids, want) {
			t.Errorf("TreeKids(%d) = %v, want %v", id, kids, want)
		}
	}
	for id, want := range map[int]int{11: 0, 12: 0, 13: 0, 14: 0, 15: 11, 16: 0, 21: 15, 22: 0} {
		if ahead, ok := impl.TreeAhead(o, id); !ok || ahead != want {
			t.Errorf("TreeAhead(%d) = %d, %v, want %d", id, ahead, ok, want)
		}
	}
}

// P7: TreeUnder is true for a row and itself, and for another ancestor if and only if it is true for the parent.
func TestTreeUnderByTheParent(t *testing.T) {
	for _, o := range someOutlines() {
		for _, r := range o {
			up, _ := impl.TreeUp(o, r.Id)
			for _, over := range o {
				want := r.Id == over.Id || r.Depth > 0 && impl.TreeUnder(o, up, over.Id)
				if got := impl.TreeUnder(o, r.Id, over.Id); got != want {
					t.Fatalf("TreeUnder(%v, %d, %d) = %v", o, r.Id, over.Id, got)
				}
			}
		}
	}
}

// P8: the descendants of a row are those after it with a greater depth, up to the first other one.
func TestTreeUnderEndsAtTheFirstRowNotDeeper(t *testing.T) {
	for _, o := range someOutlines() {
		for i, over := range o {
			end := i + 1
			for end < len(o) && o[end].Depth > over.Depth {
				end++
			}
			for j, r := range o {
				if got := impl.TreeUnder(o, r.Id, over.Id); got != (j >= i && j < end) {
					t.Fatalf("TreeUnder(%v, %d, %d) = %v", o, r.Id, over.Id, got)
				}
			}
		}
	}
}

// P8: no two rows are descendants of each other.
func TestTreeUnderIsNotBothWays(t *testing.T) {
	for _, o := range someOutlines() {
		for i, a := range o {
			for _, b := range o[:i] {
				if impl.TreeUnder(o, a.Id, b.Id) && impl.TreeUnder(o, b.Id, a.Id) {
					t.Fatalf("%d and %d are under each other in %v", a.Id, b.Id, o)
				}
			}
		}
	}
}

func TestTreeUnderWrittenOut(t *testing.T) {
	o := rowsOf("1", ".11", "..12", "...13", ".14", "..15", "2", ".21", "3")
	under := map[int][]int{
		1: {1, 11, 12, 13, 14, 15}, 11: {11, 12, 13}, 12: {12, 13}, 13: {13},
		14: {14, 15}, 15: {15}, 2: {2, 21}, 21: {21}, 3: {3},
	}
	for _, id := range rowNumbers() {
		for _, over := range rowNumbers() {
			if got := impl.TreeUnder(o, id, over); got != slices.Contains(under[over], id) {
				t.Errorf("TreeUnder(%d, %d) = %v", id, over, got)
			}
		}
	}
}

// P9: there is one line per row, with as many dots as its depth.
func TestTreeTextHasALineForEachRow(t *testing.T) {
	for _, o := range someOutlines() {
		text := impl.TreeText(o)
		lines := strings.SplitAfter(text, "\n")
		if len(lines) != len(o)+1 || lines[len(o)] != "" {
			t.Fatalf("TreeText(%v) = %q", o, text)
		}
		lines = strings.Split(strings.TrimSuffix(text, "\n"), "\n")
		if !slices.Equal(rowsOf(lines...), o) || strings.Contains(text, " \n") {
			t.Fatalf("TreeText(%v) = %q", o, text)
		}
	}
}

func TestTreeTextWrittenOut(t *testing.T) {
	o := rowsOf("1", ".11 a", "..36 dcba", ".12", "2", ".21", "3", ".31 bb")
	if text := impl.TreeText(o); text != "1\n.11 a\n..36 dcba\n.12\n2\n.21\n3\n.31 bb\n" {
		t.Errorf("TreeText(%v) = %q", o, text)
	}
	text := impl.TreeText(chain(impl.RootFound))
	if !strings.HasSuffix(text, "\n"+strings.Repeat(".", 18)+"36 a\n") || !strings.HasPrefix(text, "1\n2\n3\n.11\n..12 a\n...13 d\n") {
		t.Errorf("the text of a chain is %q", text)
	}
}

// P9: valid outlines have the same text only if they are equal, also if they differ in a text alone.
func TestTreeTextIsDifferent(t *testing.T) {
	seen := map[string][]impl.Row{}
	for _, o := range someOutlines() {
		for i := range o {
			for _, text := range []string{"", "a", "aa", "ab", "ba", o[i].Text} {
				other := slices.Clone(o)
				if other[i].Depth > 0 {
					other[i].Text = text
				}
				written := impl.TreeText(other)
				if before, ok := seen[written]; ok && !slices.Equal(before, other) {
					t.Fatalf("%v and %v are both %q", before, other, written)
				}
				seen[written] = other
			}
		}
	}
}

// P10: every row is a descendant of exactly one root.
func TestEveryRowIsUnderOneRoot(t *testing.T) {
	for _, o := range someOutlines() {
		root := 0
		for _, r := range o {
			if r.Depth == 0 {
				root = r.Id
			}
			for _, id := range roots {
				if got := impl.TreeUnder(o, r.Id, id); got != (id == root) {
					t.Fatalf("TreeUnder(%v, %d, %d) = %v", o, r.Id, id, got)
				}
			}
		}
	}
}

// P11: from a row, TreeUp leads to a root in as many steps as its depth.
func TestTreeUpLeadsToARoot(t *testing.T) {
	for _, o := range someOutlines() {
		for _, r := range o {
			id := r.Id
			for range r.Depth {
				if slices.Contains(roots, id) {
					t.Fatalf("%d is at a root too early in %v", r.Id, o)
				}
				up, ok := impl.TreeUp(o, id)
				if !ok {
					t.Fatalf("TreeUp(%v, %d) fails", o, id)
				}
				id = up
			}
			if !slices.Contains(roots, id) {
				t.Fatalf("%d is led to %d in %v", r.Id, id, o)
			}
		}
	}
}

// P12: TreeAhead of a row has the same parent and comes before it, and no sibling is between them.
func TestTreeAheadIsTheNearestSibling(t *testing.T) {
	for _, o := range someOutlines() {
		for i, r := range o {
			ahead, ok := impl.TreeAhead(o, r.Id)
			if r.Depth == 0 {
				if ahead != 0 || ok {
					t.Fatalf("TreeAhead(%v, %d) = %d, %v", o, r.Id, ahead, ok)
				}
				continue
			}
			up := upIndex(o, i)
			from := up
			if ahead != 0 {
				from = place(o, ahead)
				if from < 0 || from >= i || upIndex(o, from) != up {
					t.Fatalf("TreeAhead(%v, %d) = %d", o, r.Id, ahead)
				}
			}
			for j := from + 1; j < i; j++ {
				if upIndex(o, j) == up {
					t.Fatalf("TreeAhead(%v, %d) = %d, but %d is nearer", o, r.Id, ahead, o[j].Id)
				}
			}
			if !ok {
				t.Fatalf("TreeAhead(%v, %d) fails", o, r.Id)
			}
		}
	}
}

// P13: TreeKids of all rows together contain every created row exactly once.
func TestTreeKidsContainEveryRowOnce(t *testing.T) {
	for _, o := range someOutlines() {
		var kids, want []int
		for _, r := range o {
			kids = append(kids, impl.TreeKids(o, r.Id)...)
			if r.Depth > 0 {
				want = append(want, r.Id)
			}
		}
		slices.Sort(kids)
		slices.Sort(want)
		if !slices.Equal(kids, want) {
			t.Fatalf("the children in %v are %v", o, kids)
		}
	}
}

// P14: TreeUnder is transitive.
func TestTreeUnderIsTransitive(t *testing.T) {
	outlines := someOutlines()
	for i := 0; i < len(outlines); i += 7 {
		o := outlines[i]
		for _, a := range o {
			for _, b := range o {
				if !impl.TreeUnder(o, a.Id, b.Id) {
					continue
				}
				for _, c := range o {
					if impl.TreeUnder(o, b.Id, c.Id) && !impl.TreeUnder(o, a.Id, c.Id) {
						t.Fatalf("%d is under %d and that under %d in %v", a.Id, b.Id, c.Id, o)
					}
				}
			}
		}
	}
}

// checkNoRow fails if any function finds a row that is not there.
func checkNoRow(t *testing.T, what string, o []impl.Row, id int) {
	t.Helper()
	if up, ok := impl.TreeUp(o, id); up != 0 || ok {
		t.Errorf("%s: TreeUp(%v, %d) = %d, %v", what, o, id, up, ok)
	}
	if kids := impl.TreeKids(o, id); len(kids) != 0 {
		t.Errorf("%s: TreeKids(%v, %d) = %v", what, o, id, kids)
	}
	if ahead, ok := impl.TreeAhead(o, id); ahead != 0 || ok {
		t.Errorf("%s: TreeAhead(%v, %d) = %d, %v", what, o, id, ahead, ok)
	}
	for _, other := range append(rowNumbers(), 0, -1, id) {
		if impl.TreeUnder(o, id, other) || impl.TreeUnder(o, other, id) {
			t.Errorf("%s: TreeUnder of %v is true for %d and %d", what, o, id, other)
		}
	}
}

// P5, P6, P7, P9: in an invalid outline there is nothing.
func TestNothingIsInAnInvalidOutline(t *testing.T) {
	for what, o := range notOutlines() {
		for _, id := range append(rowNumbers(), 0, -1, 4, 10, 17, math.MaxInt, math.MinInt) {
			checkNoRow(t, what, o, id)
		}
		if text := impl.TreeText(o); text != "" {
			t.Errorf("%s: TreeText(%v) = %q", what, o, text)
		}
	}
}

// P5, P6, P7: what is not in a valid outline is not found.
func TestNoSuchRow(t *testing.T) {
	outlines := [][]impl.Row{
		impl.TreeNew(), rowsOf("1", ".11", "..12", ".21", "2", "3"), grownOutline(3),
		rowsOf("1", "2", ".36 a", "3"), chain(impl.RootTrash),
	}
	for _, o := range outlines {
		for _, id := range append(numbers(), rowNumbers()...) {
			if place(o, id) < 0 {
				checkNoRow(t, "not there", o, id)
			}
		}
	}
}

// P6: roots have no previous sibling, although they stand after one another.
func TestTreeAheadOfARoot(t *testing.T) {
	for _, o := range [][]impl.Row{impl.TreeNew(), rowsOf("1", ".11", "2", ".21", "3", ".31"), chain(impl.RootDoc)} {
		for _, root := range roots {
			if ahead, ok := impl.TreeAhead(o, root); ahead != 0 || ok {
				t.Errorf("TreeAhead(%v, %d) = %d, %v", o, root, ahead, ok)
			}
			if up, ok := impl.TreeUp(o, root); up != 0 || !ok {
				t.Errorf("TreeUp(%v, %d) = %d, %v", o, root, up, ok)
			}
		}
	}
}

func TestOutlinesAreNotModified(t *testing.T) {
	all := [][]impl.Row{impl.TreeNew(), chain(impl.RootDoc), grownOutline(5), rowsOf("1", ".11 a", "..21", ".12", "2", "3")}
	for _, o := range notOutlines() {
		all = append(all, o)
	}
	for _, o := range all {
		untouched(t, o, func(o []impl.Row) {
			impl.TreeOk(o)
			impl.TreeText(o)
			for _, id := range append(rowNumbers(), 0, -1) {
				impl.TreeUp(o, id)
				impl.TreeKids(o, id)
				impl.TreeAhead(o, id)
				impl.TreeUnder(o, id, impl.RootDoc)
			}
		})
	}
}

// What one call returned stays as it is, whatever is written to what another one returned.
func TestTreeKidsIsNewEachTime(t *testing.T) {
	lines := []string{"1", ".11", "..12", "..13", "..14", ".15", ".16", "2", ".21", "3"}
	for _, spoiled := range rowsOf(lines...) {
		o := rowsOf(lines...)
		first := map[int][]int{}
		for _, r := range o {
			first[r.Id] = impl.TreeKids(o, r.Id)
		}
		kids := impl.TreeKids(o, spoiled.Id)
		whole := kids[:cap(kids)]
		for i := range whole {
			whole[i] = -9
		}
		if !slices.Equal(o, rowsOf(lines...)) {
			t.Errorf("the outline became %v", o)
		}
		for id, want := range map[int][]int{1: {11, 15, 16}, 11: {12, 13, 14}, 2: {21}, 3: {}, 21: {}} {
			if !slices.Equal(first[id], want) || !slices.Equal(impl.TreeKids(o, id), want) {
				t.Errorf("the children of %d became %v, and are %v", id, first[id], impl.TreeKids(o, id))
			}
		}
	}
}
