package head

// Rows of columns.
const (
	nameRow = iota
	dateRow
	userRow
	groupRow
	modeRow
	sizeRow
	endRow
	rows
)

// column is where a field begins, how wide it is, and to which base its number stands there: 0 if it holds no number.
type column struct{ at, width, base int }

// columns are a header's fields. Parse and Format both go through them, so that the one reads where the other writes.
var columns = [rows]column{
	{0, 16, 0},   // the name
	{16, 12, 10}, // the date
	{28, 6, 10},  // the user
	{34, 6, 10},  // the group
	{40, 8, 8},   // the mode
	{48, 10, 10}, // the size
	{58, 2, 0},   // the end
}
