package impl

// Rows that are always there: what is seen, what is thrown away, and what lost its place.
const (
	RootDoc   = 1
	RootTrash = 2
	RootFound = 3
)

// Limits of rows: how many there are of each who makes them, who makes them, and how long a text is.
const (
	MadeMax = 6
	WhoMax  = 3
	TextMax = 4
)

// The numbers of the rows of a client start behind a multiple of madeStep, so that those of two clients never meet.
const (
	madeStep = 10
	lastMade = madeStep*WhoMax + MadeMax
)

// depthMax is the depth of the last row if all created rows stand in one chain under a root.
const depthMax = WhoMax * MadeMax

// noRow stands apart from 0 in creators, because 0 is what the roots have there.
const noRow = -1

// creators has the client of each row number: one line for the roots, then one for each client.
var creators = [lastMade + 1]int{
	noRow, 0, 0, 0, noRow, noRow, noRow, noRow, noRow, noRow,
	noRow, 1, 1, 1, 1, 1, 1, noRow, noRow, noRow,
	noRow, 2, 2, 2, 2, 2, 2, noRow, noRow, noRow,
	noRow, 3, 3, 3, 3, 3, 3,
}

// Row is a row of an outline: its number, how deep it stands, and its text.
type Row struct {
	Id    int
	Depth int
	Text  string
}

// RowMade is the number of the n-th row that somebody makes.
func RowMade(who int, n int) int {
	if !isClient(who) || n < 1 || n > MadeMax {
		return 0
	}
	return madeStep*who + n
}

// RowWho is who made a row; 0 of those that are always there.
func RowWho(id int) (int, bool) {
	if id < 0 || id >= len(creators) || creators[id] == noRow {
		return 0, false
	}
	return creators[id], true
}

// RowOk says whether a row is ok.
func RowOk(r Row) bool {
	who, ok := RowWho(r.Id)
	if !ok {
		return false
	}
	if who == 0 {
		return r.Depth == 0 && r.Text == ""
	}
	return r.Depth >= 1 && r.Depth <= depthMax && textOk(r.Text)
}

// isClient says whether a number is that of a client.
func isClient(who int) bool {
	return who >= 1 && who <= WhoMax
}

// textOk says whether a string is a text.
func textOk(text string) bool {
	if len(text) > TextMax {
		return false
	}
	for i := range len(text) {
		if text[i] < 'a' || text[i] > 'd' {
			return false
		}
	}
	return true
}
