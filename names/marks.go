package names

// What stands in fields and in the table, beside names and numbers.
const (
	fieldWidth = 16 // bytes of a header for a name

	indexField   = "/"
	index64Field = "/SYM64/"
	tableField   = "//"
	symdefField  = "__.SYMDEF"

	shortEnd = "/"   // behind a short name
	refMark  = "/"   // ahead of a place in the table
	longMark = "#1/" // ahead of the length of the text ahead
	entryEnd = "/\n" // behind a name in the table

	blank = " "
)
