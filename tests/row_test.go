package tests

import (
	"math"
	"strings"
	"testing"

	"loop.example/plashet/impl"
)

// made has the numbers that clients give to their rows, written out so that nothing here is computed as in the program.
var made = map[int][]int{
	1: {11, 12, 13, 14, 15, 16},
	2: {21, 22, 23, 24, 25, 26},
	3: {31, 32, 33, 34, 35, 36},
}

var roots = []int{impl.RootDoc, impl.RootTrash, impl.RootFound}

// The numbers that would look valid if they were cut to 8, 16 or 32 bits, or if a product wrapped around.
var farNumbers = []int{
	math.MinInt, math.MinInt + 1, math.MinInt + 11, math.MinInt32, -1 << 16, -256 + 11,
	256 + 1, 256 + 11, 1<<16 + 2, 1<<16 + 36, math.MaxInt32, 1<<32 + 1, 1<<32 + 11,
	math.MaxInt/10 + 1, math.MaxInt - 1, math.MaxInt,
}

// numbers are all from -200 to 200, and those far out.
func numbers() []int {
	all := append([]int(nil), farNumbers...)
	for n := -200; n <= 200; n++ {
		all = append(all, n)
	}
	return all
}

// creator is who made each row number that there is, and 0 for a root.
func creator() map[int]int {
	who := map[int]int{}
	for _, root := range roots {
		who[root] = 0
	}
	for w, ids := range made {
		for _, id := range ids {
			who[id] = w
		}
	}
	return who
}

func TestRowConstants(t *testing.T) {
	if impl.RootDoc != 1 || impl.RootTrash != 2 || impl.RootFound != 3 {
		t.Errorf("roots are %v", roots)
	}
	if impl.WhoMax != 3 || impl.MadeMax != 6 || impl.TextMax != 4 {
		t.Errorf("limits are %d %d %d", impl.WhoMax, impl.MadeMax, impl.TextMax)
	}
}

// P1: RowWho of RowMade is the client.
func TestRowMadeIsOfItsClient(t *testing.T) {
	for who, ids := range made {
		for i, want := range ids {
			id := impl.RowMade(who, i+1)
			if id != want {
				t.Errorf("RowMade(%d, %d) = %d, want %d", who, i+1, id, want)
			}
			if got, ok := impl.RowWho(id); got != who || !ok {
				t.Errorf("RowWho(%d) = %d, %v, want %d", id, got, ok, who)
			}
		}
	}
}

// P1: RowMade of another client or another n is another number.
func TestRowMadeIsDifferent(t *testing.T) {
	seen := map[int][2]int{}
	for who := 1; who <= impl.WhoMax; who++ {
		for n := 1; n <= impl.MadeMax; n++ {
			id := impl.RowMade(who, n)
			if before, ok := seen[id]; ok {
				t.Errorf("RowMade(%d, %d) = %d, as of %v", who, n, id, before)
			}
			seen[id] = [2]int{who, n}
		}
	}
	if len(seen) != impl.WhoMax*impl.MadeMax {
		t.Errorf("%d numbers", len(seen))
	}
}

// P1: out of range on either side there is no number, also where the sum would be the number of another row.
func TestRowMadeOutOfRange(t *testing.T) {
	for _, who := range numbers() {
		for _, n := range numbers() {
			inRange := who >= 1 && who <= 3 && n >= 1 && n <= 6
			if got := impl.RowMade(who, n); !inRange && got != 0 {
				t.Errorf("RowMade(%d, %d) = %d, want 0", who, n, got)
			}
		}
	}
	for _, c := range [][2]int{{0, 1}, {0, 11}, {4, 1}, {-1, 1}, {1, 0}, {1, 7}, {1, 11}, {3, -9}, {3, 7}, {4, -9}} {
		if got := impl.RowMade(c[0], c[1]); got != 0 {
			t.Errorf("RowMade(%d, %d) = %d, want 0", c[0], c[1], got)
		}
	}
}

// P2: RowWho succeeds for exactly the roots, which belong to nobody, and RowMade of some client.
func TestRowWhoOfEveryNumber(t *testing.T) {
	who := creator()
	for _, id := range numbers() {
		want, wantOk := who[id]
		if got, ok := impl.RowWho(id); got != want || ok != wantOk {
			t.Errorf("RowWho(%d) = %d, %v, want %d, %v", id, got, ok, want, wantOk)
		}
	}
}

// P2: the numbers right beside the roots and those of each client are none.
func TestRowWhoBesideRows(t *testing.T) {
	for _, id := range []int{-11, -1, 0, 4, 9, 10, 17, 19, 20, 27, 29, 30, 37, 40, 41} {
		if got, ok := impl.RowWho(id); got != 0 || ok {
			t.Errorf("RowWho(%d) = %d, %v, want 0, false", id, got, ok)
		}
	}
}

var goodTexts = []string{"", "a", "d", "bc", "cab", "abcd", "dddd", "aaaa"}

var badTexts = []string{
	"abcda", "aaaaa", "aaaae", " ", "a ", " a", "ab d", "A", "aB", "`", "e", "abce", "eabc", "1",
	"\x00", "a\x00", "\n", "ab\n", "\xff", "\x80abc", "é", "а", "''", strings.Repeat("a", 1<<16),
}

var depths = append([]int{-2, -1, 0, 1, 2, 17, 18, 19, 20, 36, 255, 257}, farNumbers...)

// checkRow fails if RowOk is not what is wanted.
func checkRow(t *testing.T, r impl.Row, want bool) {
	t.Helper()
	if got := impl.RowOk(r); got != want {
		t.Errorf("RowOk(%d, %d, %.9q) = %v, want %v", r.Id, r.Depth, r.Text, got, want)
	}
}

// P3: a root has depth 0 and an empty text, and nothing else.
func TestRowOkOfRoots(t *testing.T) {
	for _, id := range roots {
		for _, depth := range depths {
			for _, text := range goodTexts {
				checkRow(t, impl.Row{Id: id, Depth: depth, Text: text}, depth == 0 && text == "")
			}
			for _, text := range badTexts {
				checkRow(t, impl.Row{Id: id, Depth: depth, Text: text}, false)
			}
		}
	}
}

// P3: a created row has a depth from 1 to 18 and a text, and is never as a root is.
func TestRowOkOfCreatedRows(t *testing.T) {
	for _, ids := range made {
		for _, id := range ids {
			for _, depth := range depths {
				for _, text := range goodTexts {
					checkRow(t, impl.Row{Id: id, Depth: depth, Text: text}, depth >= 1 && depth <= 18)
				}
				for _, text := range badTexts {
					checkRow(t, impl.Row{Id: id, Depth: depth, Text: text}, false)
				}
			}
		}
	}
}

// P3: the first and the last client, row and depth.
func TestRowOkAtTheLimits(t *testing.T) {
	for depth := -1; depth <= 40; depth++ {
		for _, id := range []int{11, 16, 31, 36} {
			checkRow(t, impl.Row{Id: id, Depth: depth, Text: "abcd"}, depth >= 1 && depth <= 18)
			checkRow(t, impl.Row{Id: id, Depth: depth}, depth >= 1 && depth <= 18)
		}
	}
}

// P3: of all bytes, at every place of a text of every length, only those from a to d are letters.
func TestRowOkOfEveryByte(t *testing.T) {
	for length := 1; length <= impl.TextMax+1; length++ {
		for place := range length {
			for b := range 256 {
				text := []byte(strings.Repeat("c", length))
				text[place] = byte(b)
				want := length <= 4 && strings.IndexByte("abcd", byte(b)) >= 0
				checkRow(t, impl.Row{Id: 22, Depth: 3, Text: string(text)}, want)
			}
		}
	}
}

// P3: a number that is no row is invalid whatever else is there.
func TestRowOkOfNoRow(t *testing.T) {
	who := creator()
	for _, id := range numbers() {
		if _, ok := who[id]; ok {
			continue
		}
		for _, depth := range []int{-1, 0, 1, 18, 19} {
			for _, text := range []string{"", "a", "abcd", "e"} {
				checkRow(t, impl.Row{Id: id, Depth: depth, Text: text}, false)
			}
		}
	}
}

func TestRowOkOfTheZeroValue(t *testing.T) {
	checkRow(t, impl.Row{}, false)
}
