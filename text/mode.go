package text

// modeGroup has the bits of owner, group or others, and the letter that tells the execute bit together with the other one.
type modeGroup struct {
	read, write, execute, other int
	mark                        byte
}

var modeGroups = [3]modeGroup{
	{0o400, 0o200, 0o100, 0o4000, 's'},
	{0o040, 0o020, 0o010, 0o2000, 's'},
	{0o004, 0o002, 0o001, 0o1000, 't'},
}

func letterIf(set bool, letter byte) byte {
	if set {
		return letter
	}
	return '-'
}

func executeLetter(execute, other bool, mark byte) byte {
	switch {
	case execute && other:
		return mark
	case other:
		return mark - 'a' + 'A'
	}
	return letterIf(execute, 'x')
}
