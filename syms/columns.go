package syms

// column is where a number stands in an entry, and in how many bytes.
type column struct{ at, width int }

// columns are where the fields of an entry stand in its length bytes.
type columns struct {
	length                                  uint64
	name, value, size, info, other, section column
}

// columnsOf are the columns of a class: 32 or 64, as elf tells it.
func columnsOf(class int) columns {
	if class == 32 {
		return columns{
			length: 16, name: column{0, 4}, value: column{4, 4}, size: column{8, 4},
			info: column{12, 1}, other: column{13, 1}, section: column{14, 2},
		}
	}
	return columns{
		length: 24, name: column{0, 4}, value: column{8, 8}, size: column{16, 8},
		info: column{4, 1}, other: column{5, 1}, section: column{6, 2},
	}
}
