package elf

// column is where a number stands in its part of the file, and in how many bytes.
type column struct{ at, width int }

// shape is what hangs on the class.
type shape struct {
	class int
	head  headShape
	entry entryShape
}

// headShape is where the numbers of the file's header stand in its length bytes.
type headShape struct {
	length                                           uint64
	kind, machine, shoff, shentsize, shnum, shstrndx column
}

// entryShape is where the numbers of an entry of the section table stand in its length bytes.
type entryShape struct {
	length                                               uint64
	name, kind, flags, offset, size, link, info, entSize column
}

func shape32() shape {
	return shape{
		class: 32,
		head: headShape{
			length: 52, kind: column{16, 2}, machine: column{18, 2}, shoff: column{32, 4},
			shentsize: column{46, 2}, shnum: column{48, 2}, shstrndx: column{50, 2},
		},
		entry: entryShape{
			length: 40, name: column{0, 4}, kind: column{4, 4}, flags: column{8, 4}, offset: column{16, 4},
			size: column{20, 4}, link: column{24, 4}, info: column{28, 4}, entSize: column{36, 4},
		},
	}
}

func shape64() shape {
	return shape{
		class: 64,
		head: headShape{
			length: 64, kind: column{16, 2}, machine: column{18, 2}, shoff: column{40, 8},
			shentsize: column{58, 2}, shnum: column{60, 2}, shstrndx: column{62, 2},
		},
		entry: entryShape{
			length: 64, name: column{0, 4}, kind: column{4, 4}, flags: column{8, 8}, offset: column{24, 8},
			size: column{32, 8}, link: column{40, 4}, info: column{44, 4}, entSize: column{56, 8},
		},
	}
}
