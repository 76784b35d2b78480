package cmd

import "shelf/api"

// whyNoLine is why no line means this command; OK: one does.
func whyNoLine(c api.Command) api.Errno {
	atEnd := c.Pos.Where == api.AtEnd
	switch {
	case c.Prog != api.Ar && c.Prog != api.Ranlib:
		return api.ErrProgram
	case !isOneOf(c.Op, "dmpqrstx") || c.Prog == api.Ranlib && c.Op != 's':
		return api.ErrNoOp
	case !isMix(c):
		return api.ErrMix
	case atEnd && c.Pos.Anchor != "" || !atEnd && isKeyWord(c.Pos.Anchor):
		return api.ErrNoAnchor
	case atEnd && isKeyWord(c.Archive):
		return api.ErrNoArchive
	}
	return api.OK
}

// isMix: are there words for all that is set beside the operands, and do they go together?
func isMix(c api.Command) bool {
	placed, ok := placeLetter(c.Pos.Where)
	if !ok || c.Kind != api.GNU && c.Kind != api.BSD {
		return false
	}
	if c.Prog == api.Ranlib {
		flags := flagLetters(c)
		return placed == "" && c.Kind == api.GNU && (flags == "" || flags == "D")
	}
	return misfit(c, placed) == ""
}

// arLine is the line of ar for a command that has one.
func arLine(c api.Command) []string {
	placed, _ := placeLetter(c.Pos.Where)
	words := []string{arWord}
	if c.Kind == api.BSD {
		words = append(words, bsdOption)
	}
	words = append(words, string(rune(c.Op))+placed+flagLetters(c))
	if placed != "" {
		words = append(words, c.Pos.Anchor)
	}
	words = append(words, c.Archive)
	return append(words, c.Names...)
}

// ranlibLine is the line of ranlib for a command that has one.
func ranlibLine(c api.Command) []string {
	words := []string{ranlibWord}
	if c.Det {
		words = append(words, "-D")
	}
	words = append(words, c.Archive)
	return append(words, c.Names...)
}
