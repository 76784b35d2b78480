package nm

import (
	"strconv"
	"strings"

	"shelf/api"
	"shelf/text"
)

// picked are the rows that are asked for, in a list of its own.
func picked(rows []api.Row, o api.NmOpts) []api.Row {
	var list []api.Row
	for _, r := range rows {
		if !isLeftOut(r, o) {
			list = append(list, r)
		}
	}
	return list
}

// isLeftOut: whether a row is not defined its Letter says here, and not its Section.
func isLeftOut(r api.Row, o api.NmOpts) bool {
	isUndefined := r.Letter == 'U' || r.Letter == 'w'
	return o.Global && r.Bind == local || o.Undef && !isUndefined
}

// undefinedAhead is below 0 if a has no section and b has one, and above 0 the other way round.
func undefinedAhead(a, b api.Row) int {
	switch {
	case a.Section == undefined && b.Section != undefined:
		return -1
	case a.Section != undefined && b.Section == undefined:
		return 1
	}
	return 0
}

// columnsOf is how wide a Value is told of a file of this class.
func columnsOf(class int) int {
	if class == 32 {
		return 8
	}
	return 16
}

func writeRow(lines *strings.Builder, r api.Row, columns int) {
	lines.WriteString(valueIn(columns, r) + " ")
	lines.WriteByte(r.Letter) // as it is: a text made of its number would have two bytes from 128 on
	lines.WriteString(" " + text.Quote(r.Name) + "\n")
}

// valueIn is a row's Value in these columns; one that is defined elsewhere has none here.
func valueIn(columns int, r api.Row) string {
	if r.Section == undefined {
		return strings.Repeat(" ", columns)
	}
	digits := strconv.FormatUint(r.Value, 16)
	return strings.Repeat("0", max(0, columns-len(digits))) + digits
}
