package nm

import "shelf/api"

// What a symbol's Bind, Type and Section say, as far as it matters here.
const (
	local = 0
	weak  = 2

	dataObject  = 1
	sectionSelf = 3
	sourceFile  = 4

	undefined = 0
	absolute  = 0xfff1
	common    = 0xfff2
)

// What a section's Type and Flags say, as far as it matters here.
const (
	roomAlone = 8

	isWritten = 1
	isLoaded  = 2
	isRun     = 4
)

// isTold: symbols that stand for a section or a source file are of use to a linker alone, and one without a name has nothing to tell.
func isTold(s api.Symbol) bool {
	return s.Name != "" && s.Type != sectionSelf && s.Type != sourceFile
}

// sectionLetter is the letter of what others see that is defined in this section.
func sectionLetter(s api.Section) byte {
	switch {
	case s.Type == roomAlone:
		return 'B'
	case s.Flags&isRun != 0:
		return 'T'
	case s.Flags&isWritten != 0:
		return 'D'
	case s.Flags&isLoaded != 0:
		return 'R'
	}
	return 'N'
}

// byBind is the small letter for a symbol that no other file sees.
func byBind(bind int, letter byte) byte {
	if bind == local {
		return letter - 'A' + 'a'
	}
	return letter
}
